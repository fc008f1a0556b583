/- Contracts and plain words that the laws' proofs stand on. -/
import Derived.Test.YtaodjnkjjmhecaaGreatDoorLibAQ
import Derived.Test.YtaodjnkjjmhecaaGreatDoorLibAH
import Derived.Test.YtaodjnkjjmhecaaGreatDoorLibBI
import Derived.Test.YtaodjnkjjmhecaaGreatDoorOrRef7
namespace Go.Proofs.YtaodjnkjjmhecaaGreatDoor
open Go.RowKit
set_option linter.unusedVariables false
theorem winners_in {m : MapR} {r : EvR} (h : r ∈ winnersR m) : r ∈ m.kept := by
  have H : ∀ (l out : List EvR), (∀ x ∈ out, x ∈ m.kept) → ∀ x ∈ l.foldl (winStepR m) out, x ∈ m.kept := by
    intro l
    induction l with
    | nil => exact fun out h => h
    | cons x t ih =>
      intro out ho
      refine ih _ fun y hy => ?_
      unfold winStepR at hy
      split at hy
      · exact ho y hy
      · rename_i e he
        split at hy
        · unfold insKR at hy
          rcases List.mem_append.1 hy with h1 | h1
          · exact ho y (List.mem_of_mem_take h1)
          · rcases List.mem_cons.1 h1 with rfl | h2
            · exact winner_in he
            · exact ho y (List.mem_of_mem_drop h2)
        · exact ho y hy
  exact H _ [] (fun x h => by cases h) r h
theorem refAliveEs (ac : Option Addr) (nc cc : Nat) (ak : Option Addr) (nk ck : Nat) (ad : Option Addr) (nd cd : Nat) (m : MapR) (w : World) (hM : RowM w ac nc cc ak nk ck ad nd cd m) (hO : OversAt w m.kept) (hn : nk ≤ 100000) :
    Calls Tryz.prog 78 #[.agg #[.slice ac nc cc, .slice ak nk ck, .slice ad nd cd]] w (GivesEs (aliveM m.plain) w) :=
  (refAliveC ac nc cc ak nk ck ad nd cd m w hM hn).mono fun en w' h => by
    obtain ⟨q, K, c, h1, h2, h3⟩ := h
    exact ⟨q, K, c, h1, ⟨aliveR m, alive_map m, h2.row encE_len, fun r hr => ((hO.below h3) r (alive_in hr))⟩, h3⟩
theorem refWinnersEs (ac : Option Addr) (nc cc : Nat) (ak : Option Addr) (nk ck : Nat) (ad : Option Addr) (nd cd : Nat) (m : MapR) (w : World) (hM : RowM w ac nc cc ak nk ck ad nd cd m) (hO : OversAt w m.kept) (hn : nk ≤ 100000) :
    Calls Tryz.prog 79 #[.agg #[.slice ac nc cc, .slice ak nk ck, .slice ad nd cd]] w (GivesEs (winnersM m.plain) w) :=
  (refWinnersC ac nc cc ak nk ck ad nd cd m w hM hn).mono fun en w' h => by
    obtain ⟨q, K, c, h1, h2, h3⟩ := h
    exact ⟨q, K, c, h1, ⟨winnersR m, winners_map m, h2.row encE_len, fun r hr => ((hO.below h3) r (winners_in hr))⟩, h3⟩
theorem sameMX (a b : Option Addr) (n m c1 c2 : Nat) (L : List DotN) (w : World) (hL : RowOf encD 3 w a n c1 L) (hM : RowOf encD 3 w b m c2 L) :
    Calls Tryz.prog 77 #[.slice a n c1, .slice b m c2] w fun e w' => e = .returned (.bool true) ∧ Below w.heap.size w w' :=
  (refSameMC a b n m c1 c2 L L w hL hM).mono fun e w' h => ⟨by rw [h.1, sameDs_iff.2 rfl], by obtain ⟨k, rfl⟩ := h.2; exact drawn_below (Below.refl _ _) k⟩
theorem sameDX (a b : Option Addr) (n m c1 c2 : Nat) (L : List DotN) (w : World) (hL : RowOf encD 3 w a n c1 L) (hM : RowOf encD 3 w b m c2 L) :
    Calls Tryz.prog 80 #[.slice a n c1, .slice b m c2] w fun e w' => e = .returned (.bool true) ∧ Below w.heap.size w w' :=
  (refSameDC a b n m c1 c2 L L w hL hM).mono fun e w' h => ⟨by rw [h.1, sameDs_iff.2 rfl], by obtain ⟨k, rfl⟩ := h.2; exact drawn_below (Below.refl _ _) k⟩
set_option maxHeartbeats 4000000 in
set_option maxRecDepth 100000 in
theorem isMC (p : Nat) (F R : Nat → Prop) (ac : Option Addr) (nc cc : Nat) (ak : Option Addr) (nk ck : Nat) (ad : Option Addr) (nd cd : Nat) (m : MapR) (w : World) (h : MapAt w p F R m.plain) (hM : RowM w ac nc cc ak nk ck ad nd cd m) (hO : OversAt w m.kept) (hn : nk ≤ 100000) (hdn : m.dead.length ≤ 100000) :
    Calls Tryz.prog 27 #[.pointer (some ⟨p, 0, none⟩), .agg #[.slice ac nc cc, .slice ak nk ck, .slice ad nd cd]] w fun en w' => en = .returned (.bool true) ∧ Below w.heap.size w w' := by
  have o1 := ObjAt.new w #[.slice ac nc cc, .slice ak nk ck, .slice ad nd cd] 31
  have b1 := below_alloc w (.cells #[.slice ac nc cc, .slice ak nk ck, .slice ad nd cd] 31)
  have hlt1 := o1.lt
  generalize hw1 : w.alloc (.cells #[.slice ac nc cc, .slice ak nk ck, .slice ad nd cd] 31) = w1 at *
  have hX := fun v (hv : Below w1.heap.size w1 v) => b1.trans (hv.mono b1.size)
  have hM1 := fun v (hv : Below w1.heap.size w1 v) => hM.below (hX v hv)
  have hO1 := fun v (hv : Below w1.heap.size w1 v) => hO.below (hX v hv)
  have hP1 := fun v (hv : Below w1.heap.size w1 v) => h.below (hX v hv)
  have hK1 : ∀ v, Below w1.heap.size w1 v → RowE v ak nk ck m.plain.kept := fun v hv => ⟨m.kept, rfl, (hM1 v hv).kept, hO1 v hv⟩
  have hS : ∀ w', Below w1.heap.size w1 w' → w'.cell? ⟨w.heap.size, 0, none⟩ = some (.slice ac nc cc) ∧ w'.cell? ⟨w.heap.size, 1, none⟩ = some (.slice ak nk ck) ∧ w'.cell? ⟨w.heap.size, 2, none⟩ = some (.slice ad nd cd) := fun v hv => by
    have ob := o1.below hv hlt1
    exact ⟨ob.cell 0 rfl, ob.cell 1 rfl, ob.cell 2 rfl⟩
  have HC := fun v hv => mContextC p F R m.plain v (hP1 v hv)
  have HE := fun v hv => mEventsC p F R m.plain v (hP1 v hv)
  have HA := fun v hv => mAliveC p F R m.plain v (hP1 v hv)
  have HW := fun v hv => mWinnersC p F R m.plain v (hP1 v hv)
  have HD := fun v hv => mDeadsC p F R m.plain v (hP1 v hv) hdn
  have HN := fun v hv => mLenC p F R m.plain v (hP1 v hv)
  have RA := fun v hv => refAliveEs ac nc cc ak nk ck ad nd cd m v (hM1 v hv) (hO1 v hv) hn
  have RW := fun v hv => refWinnersEs ac nc cc ak nk ck ad nd cd m v (hM1 v hv) (hO1 v hv) hn
  have hkl : m.plain.kept.length = nk := by rw [← hM.kept.leq]; exact List.length_map ..
  rw [hkl] at HN
  have hB1 : Below w1.heap.size w1 w1.drew := (Below.refl _ w1).drew
  unfold GivesDs at HC HD
  unfold GivesEs at HE HA HW RA RW
  have eC : m.plain.ctx = m.ctx := rfl
  have eD : m.plain.dead = m.dead := rfl
  rw [eC] at HC
  rw [eD] at HD
  generalize aliveM m.plain = LA at *
  generalize winnersM m.plain = LW at *
  generalize m.plain.kept = LK at *
  clear hkl eC eD hn h hM hO hP1 hO1 hdn
  go_enter Tryz.func27, Tryz.ntmps27
  go_wp2_with fail
  go_region_held3 (fun w' => w'.cell? ⟨w.heap.size, 0, none⟩ = some (.slice ac nc cc) ∧ w'.cell? ⟨w.heap.size, 1, none⟩ = some (.slice ak nk ck) ∧ w'.cell? ⟨w.heap.size, 2, none⟩ = some (.slice ad nd cd))
    (first | exact hS _ hB1)
    (first
    | (go_at_call 42; (with_reducible refine (HC _ hB1).mono ?_); rintro e v ⟨a1, n1, c1, rfl, hr1, hx⟩; have hB1 := hB1.trans (hx.mono hB1.size); clear hx)
    | (go_at_call 77; (with_reducible refine (sameMX _ _ _ _ _ _ _ _ hr1 (hM1 _ hB1).ctx).mono ?_); rintro e v ⟨rfl, hx⟩; have hB1 := hB1.trans (hx.mono hB1.size); clear hx)
    | (go_at_call 43; (with_reducible refine (HE _ hB1).mono ?_); rintro e v ⟨a2, n2, c2, rfl, hr2, hx⟩; have hB1 := hB1.trans (hx.mono hB1.size); clear hx)
    | (go_at_call 44; (with_reducible refine (HA _ hB1).mono ?_); rintro e v ⟨a3, n3, c3, rfl, hr3, hx⟩; have hB1 := hB1.trans (hx.mono hB1.size); clear hx)
    | (go_at_call 78; (with_reducible refine (RA _ hB1).mono ?_); rintro e v ⟨a4, n4, c4, rfl, hr4, hx⟩; have hr3 := hr3.below hx; have hB1 := hB1.trans (hx.mono hB1.size); clear hx)
    | (go_at_call 45; (with_reducible refine (HW _ hB1).mono ?_); rintro e v ⟨a5, n5, c5, rfl, hr5, hx⟩; have hB1 := hB1.trans (hx.mono hB1.size); clear hx)
    | (go_at_call 79; (with_reducible refine (RW _ hB1).mono ?_); rintro e v ⟨a6, n6, c6, rfl, hr6, hx⟩; have hr5 := hr5.below hx; have hB1 := hB1.trans (hx.mono hB1.size); clear hx)
    | (go_at_call 32; (with_reducible refine (sameAX _ _ _ _ _ _ _ _ hr5 hr6).mono ?_); rintro e v ⟨rfl, hx⟩; have hB1 := hB1.trans (hx.mono hB1.size); clear hx)
    | (go_at_call 32; (with_reducible refine (sameAX _ _ _ _ _ _ _ _ hr3 hr4).mono ?_); rintro e v ⟨rfl, hx⟩; have hB1 := hB1.trans (hx.mono hB1.size); clear hx)
    | (go_at_call 32; (with_reducible refine (sameAX _ _ _ _ _ _ _ _ hr2 (hK1 _ hB1)).mono ?_); rintro e v ⟨rfl, hx⟩; have hB1 := hB1.trans (hx.mono hB1.size); clear hx)
    | (go_at_call 46; (with_reducible refine (HN _ hB1).mono ?_); rintro e v ⟨rfl, hx⟩; have hB1 := hB1.trans (hx.mono hB1.size); clear hx))
  all_goals (
    go_wp2_with fail
    have hB1 := hB1.drew
    go_region_held3 (fun w' => w'.cell? ⟨w.heap.size, 0, none⟩ = some (.slice ac nc cc) ∧ w'.cell? ⟨w.heap.size, 1, none⟩ = some (.slice ak nk ck) ∧ w'.cell? ⟨w.heap.size, 2, none⟩ = some (.slice ad nd cd))
      (first | exact hS _ hB1)
      (first
      | (go_at_call 48; (with_reducible refine (HD _ hB1).mono ?_); rintro e v ⟨a7, n7, c7, rfl, hr7, hx⟩; have hB1 := hB1.trans (hx.mono hB1.size); clear hx)
      | (go_at_call 80; (with_reducible refine (sameDX _ _ _ _ _ _ _ _ hr7 (hM1 _ hB1).dead).mono ?_); rintro e v ⟨rfl, hx⟩; have hB1 := hB1.trans (hx.mono hB1.size); clear hx))
    all_goals (
      go_wp2
      go_ret
      exact ⟨rfl, b1.trans (hB1.mono b1.size)⟩))
end Go.Proofs.YtaodjnkjjmhecaaGreatDoor
