/- Contracts and plain words that the laws' proofs stand on. -/
import Derived.Test.YtaodjnkjjmhecaaGreatDoorLibAJ
namespace Go.Proofs.YtaodjnkjjmhecaaGreatDoor
open Go.RowKit
set_option linter.unusedVariables false
def chkF : Option DotN → List DotN → Int
  | _, [] => 0
  | pr, y :: t => if rightD y = false then 4 else if (pr.map fun z => aheadD z y) = some false then 6 else chkF (some y) t
def checkV (l : List DotN) : Int := if 4096 < l.length then 3 else chkF none l
theorem chkF_ok : ∀ {l : List DotN} {pr : Option DotN}, chkF pr l = 0 → OkV l ∧ ∀ z, pr = some z → ∀ y ∈ l, aheadD z y = true
  | [], pr, _ => ⟨⟨List.Pairwise.nil, fun x h => by cases h⟩, fun z _ y h => by cases h⟩
  | x :: t, pr, h => by
    unfold chkF at h
    by_cases h1 : rightD x = false
    · rw [if_pos h1] at h
      cases h
    · rw [if_neg h1] at h
      by_cases h2 : (pr.map fun z => aheadD z x) = some false
      · rw [if_pos h2] at h
        cases h
      · rw [if_neg h2] at h
        obtain ⟨ht, hp⟩ := chkF_ok h
        have h3 := hp x rfl
        refine ⟨⟨List.pairwise_cons.2 ⟨h3, ht.ord⟩, fun y hy => ?_⟩, fun z hz y hy => ?_⟩
        · rcases List.mem_cons.1 hy with rfl | hy
          · simpa using h1
          · exact ht.right y hy
        · subst hz
          have hzx : aheadD z x = true := by
            cases hb : aheadD z x with
            | true => rfl
            | false => exact absurd (by rw [Option.map_some, hb]) h2
          rcases List.mem_cons.1 hy with rfl | hy
          · exact hzx
          · have := h3 y hy
            rw [aheadD_iff] at *
            omega
theorem checkV_ok {l : List DotN} (h : checkV l = 0) : OkV l ∧ l.length ≤ 4096 := by
  unfold checkV at h
  split at h
  · cases h
  · exact ⟨(chkF_ok h).1, by omega⟩
theorem chkF_drop {pr : Option DotN} {L : List DotN} {k : Nat} {y : DotN} (h : L[k]? = some y) : chkF pr (L.drop k) = if rightD y = false then 4 else if (pr.map fun z => aheadD z y) = some false then 6 else chkF (some y) (L.drop (k + 1)) := by
  obtain ⟨hk, rfl⟩ := List.getElem?_eq_some_iff.1 h
  rw [List.drop_eq_getElem_cons hk]
  rfl
def prevV (L : List DotN) (k : Nat) : Option DotN := if k = 0 then none else L[k - 1]?
def VecIs (w : World) (p : Nat) (F : Nat → Prop) (l : List DotN) : Prop := ∃ mv, ObjAt w p [.map mv] ∧ NumsIs w mv F l ∧ mv ≠ some p
structure VecAt (w : World) (p : Nat) (F : Nat → Prop) (l : List DotN) : Prop where
  own : F p
  lt : ∀ k, F k → k < w.heap.size
  ok : OkV l
  is : VecIs w p F l
theorem VecAt.keeps {G : Nat → Prop} {w w' : World} {p : Nat} {F : Nat → Prop} {l : List DotN} (h : VecAt w p F l) (hk : Keeps G w w') (hd : ∀ k, F k → ¬ G k) : VecAt w' p F l := by
  obtain ⟨h1, h2, h3, mv, h4, h5, h6⟩ := h
  exact ⟨h1, fun k hF => Nat.lt_of_lt_of_le (h2 k hF) hk.size, h3, mv, h4.keeps hk (hd p h1), h5.keeps hk hd, h6⟩
def Raised (p : Nat) (F : Nat → Prop) (l : List DotN) (v : Value) (w : World) (e : Ending) (w' : World) : Prop :=
  e = .returned v ∧ ∃ F', VecAt w' p F' l ∧ Keeps F w w' ∧ ∀ k, F' k → F k ∨ w.heap.size ≤ k
def MadeV (l : List DotN) (w : World) (e : Ending) (w' : World) : Prop :=
  ∃ p F, e = .returned (.pointer (some ⟨p, 0, none⟩)) ∧ VecAt w' p F l ∧ (∀ k, F k → w.heap.size ≤ k) ∧ Below w.heap.size w w'
theorem VecAt.arg {w : World} {p : Nat} {F : Nat → Prop} {l : List DotN} (h : VecAt w p F l) : ∃ mv, ArgV w (.pointer (some ⟨p, 0, none⟩)) mv F l := by
  obtain ⟨h1, h2, h3, mv, h4, h5, h6⟩ := h
  exact ⟨mv, .inr ⟨p, 0, _, rfl, h1, h4, rfl⟩, h5, h3, h2⟩
theorem vNewC (w : World) : Calls Tryz.prog 138 #[] w (MadeV [] w) := by
  have o1 := ObjAt.new w #[.map none] 101
  have hb := below_alloc w (.cells #[.map none] 101)
  have hlt := o1.lt
  have hz : ∀ w, (zeroValue 101).run Tryz.prog w = .ok (.agg #[.map none]) w := fun w => by kernel_rfl
  go_enter Tryz.func138, Tryz.ntmps138
  go_wp2
  go_ret
  exact ⟨w.heap.size, fun k => k = w.heap.size, rfl, ⟨rfl, fun k e => by rw [e]; exact hlt, nil_ok, none, o1, .inl ⟨rfl, rfl⟩, fun e => by cases e⟩, fun k e => by rw [e]; exact Nat.le_refl _, hb⟩
theorem NumsIs.own {F : Nat → Prop} {w : World} {mv : Option Nat} {l : List DotN} (h : NumsIs w mv F l) : NumsIs w mv (fun b => mv = some b) l := by
  rcases h with h | ⟨B, n, D, rfl, hB, hm, hD⟩
  · exact .inl h
  · exact .inr ⟨B, n, D, rfl, rfl, hm, hD⟩
theorem VecAt.inn {w : World} {p : Nat} {F : Nat → Prop} {l : List DotN} (h : VecAt w p F l) : ∃ mv, VecIn w p 0 [.map mv] mv l ∧ ∀ b, mv = some b → F b := by
  obtain ⟨h1, h2, h3, mv, h4, h5, h6⟩ := h
  refine ⟨mv, ⟨h4, rfl, h5.own, h3⟩, fun b e => ?_⟩
  rcases h5 with ⟨rfl, _⟩ | ⟨B, n, D, rfl, hB, hm, hD⟩
  · cases e
  · cases e
    exact hB
theorem VecIn.back {w : World} {p : Nat} {mv : Option Nat} {l : List DotN} (h : VecIn w p 0 [.map mv] mv l) {F : Nat → Prop} (hp : F p) (hm : ∀ b, mv = some b → F b) (hl : ∀ b, F b → b < w.heap.size) : VecAt w p F l :=
  ⟨hp, hl, h.ok, mv, h.obj, h.nums.mono hm, h.not_obj⟩
theorem RaisedI.back {p : Nat} {F : Nat → Prop} {mv : Option Nat} {l : List DotN} {v : Value} {w w' : World} {e : Ending} (h : RaisedI p 0 [.map mv] mv l v w e w') (hp : F p) (hm : ∀ b, mv = some b → F b) (hl : ∀ b, F b → b < w.heap.size) : Raised p F l v w e w' := by
  obtain ⟨h1, mv', h2, h3, h4⟩ := h
  refine ⟨h1, fun b => F b ∨ mv' = some b, h2.back (.inl hp) (fun _ e => .inr e) (fun b hb => ?_), h3.mono fun b _ hb => ?_, fun b hb => ?_⟩
  · rcases hb with hb | hb
    · exact Nat.lt_of_lt_of_le (hl b hb) h3.size
    · exact h2.lt b (.inr hb)
  · rcases hb with rfl | hb
    · exact hp
    · exact hm b hb
  · rcases hb with hb | hb
    · exact .inl hb
    · rcases h4 with rfl | ⟨B, rfl, hB⟩
      · exact .inl (hm b hb)
      · cases hb
        exact .inr hB
theorem vRaiseC (p : Nat) (F : Nat → Prop) (l : List DotN) (x : DotN) (w : World) (h : VecAt w p F l) (hx : FitD x) :
    Calls Tryz.prog 114 #[.pointer (some ⟨p, 0, none⟩), .agg #[.int .i64 x.dev, .int .i64 x.inc], .int .i64 x.seq] w (Raised p F (raiseV l x).1 (.bool (raiseV l x).2) w) := by
  obtain ⟨mv, h1, h2⟩ := h.inn
  exact (vRaiseI p 0 _ mv l x w h1 hx).mono fun e w' hr => hr.back h.own h2 h.lt
theorem cmp_ge (z y : DotN) : decide (0 ≤ cmpAG z.dev z.inc y.dev y.inc) = !aheadD z y := by
  have h : aheadD z y = decide (cmpAG z.dev z.inc y.dev y.inc < 0) := by
    unfold cmpAG cmpN
    rw [Bool.eq_iff_iff, decide_eq_true_iff, aheadD_iff]
    repeat' split
    all_goals first | omega | (constructor <;> intros <;> first | omega | contradiction)
  rw [h]
  by_cases c : cmpAG z.dev z.inc y.dev y.inc < 0
  · rw [decide_eq_true c, decide_eq_false (by omega)]; rfl
  · rw [decide_eq_false c, decide_eq_true (by omega)]; rfl
set_option maxHeartbeats 4000000 in
set_option maxRecDepth 100000 in
theorem vCheckC (a : Option Addr) (n c : Nat) (L : List DotN) (w : World) (hL : RowOf encD 3 w a n c L) (hF : ∀ x ∈ L, FitD x) :
    Calls Tryz.prog 104 #[.slice a n c] w fun e w' => e = .returned (.int .i64 (checkV L)) ∧ Below w.heap.size w w' := by
  have hcm := hL.capm
  have hcl := hL.cle
  have hleq := hL.leq
  unfold maxLen at hcm
  have hb0 := Below.refl w.heap.size w
  by_cases h9 : 4096 < n
  · have h9' : (4096 : Int) < (n : Int) := by omega
    have e : checkV L = 3 := by unfold checkV; rw [if_pos (by omega)]
    rw [e]
    go_enter Tryz.func104, Tryz.ntmps104
    go_wp2
    go_ret
    exact ⟨rfl, hb0⟩
  have h9' : ¬ (4096 : Int) < (n : Int) := by omega
  have E : Hid (checkV L = chkF none L) := by unfold Hid checkV; rw [if_neg (by omega)]
  have HL := Lib.hid hL
  have Hn := Lib.hid hleq
  clear hL hleq hF
  go_enter Tryz.func104, Tryz.ntmps104
  go_wp2
  go_loopw [10] (fun i wr => ∃ k : Nat, k ≤ n ∧ i = .int .i64 (k : Int) ∧ Hid (checkV L = chkF (prevV L k) (L.drop k)) ∧ Below w.heap.size w wr) (fun i _ => n - (intOf i).toNat)
  case atStart => exact ⟨0, Nat.zero_le _, rfl, E, hb0⟩
  case round =>
    clear hb0 E
    obtain ⟨k, hk, rfl, hs, hb⟩ := hrel
    by_cases hlt : k < n
    · have hlt' : (k : Int) < (n : Int) := by omega
      have g1' : decide ((k : Int) < (n : Int)) = true := decide_eq_true hlt'
      have i1 : (0 : Int) ≤ (k : Int) := by omega
      obtain ⟨y, g, off, hy, rfl, d0, d1, d2⟩ := dot_at (HL.out.below hb) k hlt
      have hd := chkF_drop (pr := prevV L k) hy
      have HR := fun v => dotRightC0 y v
      have hpn : prevV L (k + 1) = some y := by unfold prevV; rw [if_neg (Nat.succ_ne_zero k)]; exact hy
      have o1 := ObjAt.new wr #[.int .i64 y.dev, .int .i64 y.inc, .int .i64 y.seq] 149
      have b1 := below_alloc wr (.cells #[.int .i64 y.dev, .int .i64 y.inc, .int .i64 y.seq] 149)
      have hb1 := hb.trans (b1.mono hb.size)
      have u0 := o1.cell 0 rfl; have u1 := o1.cell 1 rfl; have u2 := o1.cell 2 rfl
      have hlt1 := o1.lt
      generalize hw1 : wr.alloc (.cells #[.int .i64 y.dev, .int .i64 y.inc, .int .i64 y.seq] 149) = w1 at *
      have hB1 := Below.refl w1.heap.size w1
      cases hr : rightD y with
      | false =>
        have e : Hid (checkV L = 4) := by unfold Hid; rw [hs.out, hd, if_pos hr]
        simp only [hr] at HR
        clear hd hs hr hpn hy
        go_wp2_with (go_at_call 109; (with_reducible refine (HR _).mono ?_); rintro e w3 ⟨rfl, hx⟩; have hB1 := hB1.trans (hx.mono hB1.size); clear hx; have o1 := o1.below hB1 hlt1; have f0 := o1.cell 0 rfl; have f1 := o1.cell 1 rfl)
        go_ret
        exact ⟨by rw [e.out]; rfl, hb1.trans (hB1.mono hb1.size)⟩
      | true =>
        simp only [hr] at HR
        rw [if_neg (by rw [hr]; exact Bool.noConfusion)] at hd
        rcases Nat.eq_zero_or_pos k with h0 | h0
        · have e : Hid (checkV L = chkF (prevV L (k + 1)) (L.drop (k + 1))) := by
            unfold Hid
            have hp0 : prevV L k = none := by unfold prevV; rw [if_pos h0]
            rw [hs.out, hd, hp0, hpn]
            rfl
          subst h0
          simp only [Nat.zero_mul, Nat.add_zero] at d0 d1 d2
          clear hd hs hr hpn hy
          go_wp2_with (go_at_call 109; (with_reducible refine (HR _).mono ?_); rintro e w3 ⟨rfl, hx⟩; have hB1 := hB1.trans (hx.mono hB1.size); clear hx; have o1 := o1.below hB1 hlt1; have f0 := o1.cell 0 rfl; have f1 := o1.cell 1 rfl)
          go_quiet (fail)
          go_wp2
          go_roundw
          case rel => exact ⟨0 + 1, by omega, by go_num, e, drawn_below (hb1.trans (hB1.mono hb1.size)) _⟩
          case measure => simp [intOf]; omega
        · obtain ⟨j, hjk⟩ : ∃ j, k = j + 1 := ⟨k - 1, by omega⟩
          obtain ⟨z, g2, off2, hz, hgz, z0, z1, z2⟩ := dot_at (HL.out.below hb) j (by omega)
          cases hgz
          have hS1 : ∀ w', Below w1.heap.size w1 w' → w'.cell? ⟨wr.heap.size, 0, none⟩ = some (.int .i64 y.dev) ∧ w'.cell? ⟨wr.heap.size, 1, none⟩ = some (.int .i64 y.inc) ∧ w'.cell? ⟨g, off + j * 3, none⟩ = some (.int .i64 z.dev) ∧ w'.cell? ⟨g, off + j * 3 + 1, none⟩ = some (.int .i64 z.inc) := fun w' h => by
            have q := o1.below h hlt1
            obtain ⟨y', g', off', e1, e2, e3, e4, _⟩ := dot_at (HL.out.below (hb1.trans (h.mono hb1.size))) j (by omega)
            rw [hz] at e1
            cases e1
            cases e2
            exact ⟨q.cell 0 rfl, q.cell 1 rfl, e3, e4⟩
          have HA := fun v => dotCompareG z.dev z.inc y.dev y.inc v
          have HA := fun v => (HA v).mono fun e w' h => (show e = .returned (.int .i64 (cmpAG z.dev z.inc y.dev y.inc)) ∧ Below v.heap.size v w' from ⟨h.1, h.2.below⟩)
          have hge := cmp_ge z y
          have hp0 : prevV L k = some z := by unfold prevV; rw [if_neg (by omega), hjk]; exact hz
          rw [hp0] at hd
          have hg1 : (0 : Int) < (k : Int) := by omega
          have hg0 : decide ((0 : Int) < (k : Int)) = true := decide_eq_true hg1
          have hj1 : (k : Int) - 1 = (j : Int) := by omega
          have hj4 : wrap64 ((k : Int) - 1) = (j : Int) := by rw [hj1]; unfold wrap64; omega
          have hj2 : IntKind.i64.wrap ((k : Int) - 1) = (j : Int) := by rw [hj1, IntKind.wrap_i64]; omega
          have hj5 : IntKind.i64.wrap (j : Int) = (j : Int) := by rw [IntKind.wrap_i64]; omega
          have hj3 : (j : Int) < (n : Int) := by omega
          have hj0 : (0 : Int) ≤ (j : Int) := by omega
          generalize cmpAG z.dev z.inc y.dev y.inc = C1 at *
          cases hb2 : aheadD z y with
          | false =>
            have e : Hid (checkV L = 6) := by unfold Hid; rw [hs.out, hp0, hd, Option.map_some, hb2, if_pos rfl]
            replace hge : decide (0 ≤ C1) = true := by rw [hge, hb2]; rfl
            have hge2 : 0 ≤ C1 := of_decide_eq_true hge
            clear hd hs hr hpn hy hz hp0 hb2 hjk
            have hg2 : decide (0 < k) = true := decide_eq_true h0
            go_wp2_with (go_at_call 109; (with_reducible refine (HR _).mono ?_); rintro e w3 ⟨rfl, hx⟩; have hB1 := hB1.trans (hx.mono hB1.size); clear hx; obtain ⟨f0, f1, f3, f4⟩ := hS1 _ hB1)
            have hB1 := hB1.drew
            go_region_held3 (fun w' => w'.cell? ⟨wr.heap.size, 0, none⟩ = some (.int .i64 y.dev) ∧ w'.cell? ⟨wr.heap.size, 1, none⟩ = some (.int .i64 y.inc) ∧ w'.cell? ⟨g, off + j * 3, none⟩ = some (.int .i64 z.dev) ∧ w'.cell? ⟨g, off + j * 3 + 1, none⟩ = some (.int .i64 z.inc))
              (first | exact hS1 _ hB1)
              (first
                | (go_at_call 127; (with_reducible refine (HA _).mono ?_); rintro e w4 ⟨rfl, hx⟩; have hB1 := hB1.trans (hx.mono hB1.size); clear hx))
            all_goals (
              go_wp2
              go_ret
              exact ⟨by rw [e.out]; rfl, hb1.trans (hB1.mono hb1.size)⟩)
          | true =>
            have e : Hid (checkV L = chkF (prevV L (k + 1)) (L.drop (k + 1))) := by unfold Hid; rw [hs.out, hp0, hd, Option.map_some, hb2, if_neg (fun c => by cases c), hpn]
            replace hge : decide (0 ≤ C1) = false := by rw [hge, hb2]; rfl
            have hge2 : ¬ 0 ≤ C1 := of_decide_eq_false hge
            clear hd hs hr hpn hy hz hp0 hb2 hjk
            have hg2 : decide (0 < k) = true := decide_eq_true h0
            go_wp2_with (go_at_call 109; (with_reducible refine (HR _).mono ?_); rintro e w3 ⟨rfl, hx⟩; have hB1 := hB1.trans (hx.mono hB1.size); clear hx; obtain ⟨f0, f1, f3, f4⟩ := hS1 _ hB1)
            have hB1 := hB1.drew
            go_region_held3 (fun w' => w'.cell? ⟨wr.heap.size, 0, none⟩ = some (.int .i64 y.dev) ∧ w'.cell? ⟨wr.heap.size, 1, none⟩ = some (.int .i64 y.inc) ∧ w'.cell? ⟨g, off + j * 3, none⟩ = some (.int .i64 z.dev) ∧ w'.cell? ⟨g, off + j * 3 + 1, none⟩ = some (.int .i64 z.inc))
              (first | exact hS1 _ hB1)
              (first
                | (go_at_call 127; (with_reducible refine (HA _).mono ?_); rintro e w4 ⟨rfl, hx⟩; have hB1 := hB1.trans (hx.mono hB1.size); clear hx))
            all_goals (
              go_wp2
              go_roundw
              case rel => exact ⟨k + 1, by omega, by go_num, e, hb1.trans (hB1.mono hb1.size)⟩
              case measure => simp [intOf]; omega)
    · obtain rfl : k = n := by omega
      have e : Hid (checkV L = 0) := by unfold Hid; rw [hs.out, List.drop_eq_nil_of_le (by rw [Hn.out]; exact Nat.le_refl _)]; cases prevV L k <;> rfl
      go_wp2
      go_ret
      exact ⟨by rw [e.out]; rfl, hb⟩
set_option maxRecDepth 100000 in
theorem vOfYes (a : Option Addr) (n c : Nat) (L : List DotN) (w : World) (hL : RowOf encD 3 w a n c L) (hF : ∀ x ∈ L, FitD x) (h : checkV L = 0) :
    Calls Tryz.prog 96 #[.slice a n c] w fun e w' => ∃ p F, e = .returned (.tuple #[.pointer (some ⟨p, 0, none⟩), .int .i64 0]) ∧ VecAt w' p F L ∧ (∀ k, F k → w.heap.size ≤ k) ∧ Below w.heap.size w w' := by
  have HC := vCheckC a n c L w hL hF
  rw [h] at HC
  have hok := (checkV_ok h).1
  have hcm := hL.capm
  have hcl := hL.cle
  have hleq := hL.leq
  unfold maxLen at hcm
  have HN := fun v => vNewC v
  unfold MadeV at HN
  go_enter Tryz.func96, Tryz.ntmps96
  go_wp2_with (first
    | (go_at_call 104; (with_reducible refine HC.mono ?_); rintro e w1 ⟨rfl, hx1⟩)
    | (go_at_call 138; (with_reducible refine (HN _).mono ?_); rintro e w2 ⟨p, F0, rfl, hv2, hF2, hx2⟩; have hb2 := hx1.trans (hx2.mono hx1.size)))
  go_loopw [16] (fun i wr => ∃ (k : Nat) (F : Nat → Prop), k ≤ n ∧ i = .int .i64 (k : Int) ∧ VecAt wr p F (joinV [] (L.take k)) ∧ (∀ k, F k → w.heap.size ≤ k) ∧ Below w.heap.size w wr) (fun i _ => n - (intOf i).toNat)
  case atStart => exact ⟨0, F0, Nat.zero_le _, rfl, hv2, fun k h => Nat.le_trans hx1.size (hF2 k h), hb2⟩
  case round =>
    obtain ⟨k, F, hk, rfl, hv, hFw, hb⟩ := hrel
    clear hv2 hb2 HN HC hx1 hx2
    by_cases hlt : k < n
    · have hlt' : (k : Int) < (n : Int) := by omega
      obtain ⟨y, g, off, hy, rfl, d0, d1, d2⟩ := dot_at (hL.below hb) k hlt
      have HR := fun ww hv => vRaiseC p F (joinV [] (L.take k)) y ww hv (hF y (List.mem_of_getElem? hy))
      rw [← joinV_snoc, ← take_snocI hy] at HR
      unfold Raised at HR
      have o1 := ObjAt.new wr #[.int .i64 y.dev, .int .i64 y.inc, .int .i64 y.seq] 149
      have b1 := below_alloc wr (.cells #[.int .i64 y.dev, .int .i64 y.inc, .int .i64 y.seq] 149)
      have hv1 := hv.keeps (Keeps.new (F := fun _ => False) b1) (fun _ _ h => h)
      have hb1 := hb.trans (b1.mono hb.size)
      have u0 := o1.cell 0 rfl; have u1 := o1.cell 1 rfl; have u2 := o1.cell 2 rfl
      generalize hw1 : wr.alloc (.cells #[.int .i64 y.dev, .int .i64 y.inc, .int .i64 y.seq] 149) = w1 at *
      go_wp2_with (go_at_call 114; (with_reducible refine (HR _ hv1).mono ?_); rintro e w3 ⟨rfl, F3, hv3, k3, hn3⟩)
      go_roundw
      case rel => exact ⟨k + 1, F3, by omega, by go_num, hv3, fun i hi => (hn3 i hi).elim (hFw i) (fun h => Nat.le_trans hb1.size h), hb1.trans (k3.below hb1.size (fun i _ h => hFw i h))⟩
      case measure => simp [intOf]; omega
    · obtain rfl : k = n := by omega
      have e0 : L.take k = L := List.take_of_length_le (by rw [hleq]; exact Nat.le_refl _)
      rw [e0, join_nil hok] at hv
      go_wp2
      go_ret2
      exact ⟨p, F, rfl, hv, hFw, hb⟩
end Go.Proofs.YtaodjnkjjmhecaaGreatDoor
