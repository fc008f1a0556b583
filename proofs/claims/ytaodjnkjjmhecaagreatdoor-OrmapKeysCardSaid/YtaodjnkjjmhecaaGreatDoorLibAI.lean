/- Contracts and plain words that the laws' proofs stand on. -/
import Derived.Test.YtaodjnkjjmhecaaGreatDoorLibAF
import Derived.Test.YtaodjnkjjmhecaaGreatDoorLibAG
namespace Go.Proofs.YtaodjnkjjmhecaaGreatDoor
open Go.RowKit
set_option linter.unusedVariables false
theorem ObjAt.drewN {w : World} {b : Nat} {vs : List Value} (h : ObjAt w b vs) (n : Nat) : ObjAt (w.drewN n) b vs := by
  obtain ⟨e, h⟩ := h.heap
  exact ⟨e, by rw [show (w.drewN n).heap = w.heap from by simp]; exact h⟩
theorem has_drop {L : List DotN} {x y : DotN} {k : Nat} (h : L[k]? = some y) : hasD (L.drop k) x = (sameD y x || hasD (L.drop (k + 1)) x) := by
  obtain ⟨h1, h2⟩ := List.getElem?_eq_some_iff.1 h
  rw [List.drop_eq_getElem_cons h1, h2]
  rfl
set_option maxRecDepth 100000 in
theorem refHasDC (a : Option Addr) (n c : Nat) (L : List DotN) (x : DotN) (w : World) (hL : RowOf encD 3 w a n c L) :
    Calls Tryz.prog 39 #[.slice a n c, .agg #[.int .i64 x.dev, .int .i64 x.inc, .int .i64 x.seq]] w fun e w' => e = .returned (.bool (hasD L x)) ∧ Below w.heap.size w w' := by
  have hn := hL.leq
  have hcm := hL.capm
  have hcl := hL.cle
  unfold maxLen at hcm
  have o1 := ObjAt.new w #[.int .i64 x.dev, .int .i64 x.inc, .int .i64 x.seq] 35
  have b1 := below_alloc w (.cells #[.int .i64 x.dev, .int .i64 x.inc, .int .i64 x.seq] 35)
  have HL := Lib.hid (hL.below b1)
  have Hn := Lib.hid hn
  have v0 := o1.cell 0 rfl; have v1 := o1.cell 1 rfl; have v2 := o1.cell 2 rfl
  clear hL hn o1
  generalize hw1 : w.alloc (.cells #[.int .i64 x.dev, .int .i64 x.inc, .int .i64 x.seq] 35) = w1 at *
  go_enter Tryz.func39, Tryz.ntmps39
  go_wp2
  go_loopw [5] (fun i wr => ∃ k q : Nat, k ≤ n ∧ i = .int .i64 (k : Int) ∧ Hid (hasD L x = hasD (L.drop k) x) ∧ wr = w1.drewN q) (fun i _ => n - (intOf i).toNat)
  case atStart => exact ⟨0, 0, Nat.zero_le _, rfl, rfl, rfl⟩
  case round =>
    obtain ⟨k, q, hk, rfl, hs, rfl⟩ := hrel
    by_cases hlt : k < n
    · have hlt' : (k : Int) < (n : Int) := by omega
      obtain ⟨y, g1, o1, hy, rfl, c0, c1, c2⟩ := dot_at HL.out k hlt
      have hd := has_drop (x := x) hy
      have hE := eqDot y x
      cases hxy : sameD y x with
      | true =>
        have e : Hid (hasD L x = true) := by unfold Hid; rw [hs.out, hd, hxy]; rfl
        rw [hxy] at hE
        clear hs hxy hd hy
        go_wp2_with fail
        go_quiet (fail)
        go_wp2
        go_ret
        exact ⟨by rw [e.out]; rfl, drawn_below (drawn_below b1 _) _⟩
      | false =>
        have e : Hid (hasD L x = hasD (L.drop (k + 1)) x) := by unfold Hid; rw [hs.out, hd, hxy]; rfl
        rw [hxy] at hE
        clear hs hxy hd hy
        go_wp2_with fail
        go_quiet (fail)
        go_wp2
        go_roundw
        case rel => exact ⟨k + 1, _, by omega, by go_num, e, by first | rfl | simp⟩
        case measure => simp [intOf]; omega
    · obtain rfl : k = n := by omega
      have e : Hid (hasD L x = false) := by
        unfold Hid
        rw [hs.out, List.drop_eq_nil_of_le (by rw [Hn.out]; exact Nat.le_refl _)]
        rfl
      go_wp2
      go_ret
      exact ⟨by rw [e.out]; rfl, drawn_below b1 _⟩
def aliveR (m : MapR) : List EvR := m.kept.filter fun r => r.e.kind == 1 && !hasD m.dead r.e.dot
theorem alive_map (m : MapR) : (aliveR m).map (·.e) = aliveM m.plain := by
  unfold aliveR aliveM MapR.plain
  rw [List.filter_map]
  rfl
theorem alive_few (m : MapR) : (aliveR m).length ≤ m.kept.length := List.length_filter_le _ _
set_option maxHeartbeats 1000000 in
set_option maxRecDepth 100000 in
theorem refAliveC (ac : Option Addr) (nc cc : Nat) (ak : Option Addr) (nk ck : Nat) (ad : Option Addr) (nd cd : Nat) (m : MapR) (w : World) (hM : RowM w ac nc cc ak nk ck ad nd cd m) (hn : nk ≤ 100000) :
    Calls Tryz.prog 78 #[.agg #[.slice ac nc cc, .slice ak nk ck, .slice ad nd cd]] w (GivesR (aliveR m) w) := by
  have hcm := hM.kept.capm
  have hcl := hM.kept.cle
  unfold maxLen at hcm
  obtain ⟨i0, hi, hz0, hz1, hz2⟩ := info_parts infoEvent
  have hlq := hM.kept.leq
  have o1 := ObjAt.new w #[.slice ac nc cc, .slice ak nk ck, .slice ad nd cd] 31
  have b1 := below_alloc w (.cells #[.slice ac nc cc, .slice ak nk ck, .slice ad nd cd] 31)
  have hlt1 := o1.lt
  generalize hw1 : w.alloc (.cells #[.slice ac nc cc, .slice ak nk ck, .slice ad nd cd] 31) = w1 at *
  have z2 := (OwnZ.lit encE 19 43 w1).base b1.size
  have b2 := below_alloc w1 (.cells #[] 43)
  have o2 := o1.below b2 hlt1
  have hb2 := b1.trans (b2.mono b1.size)
  have hK : ∀ v, Below (w.heap.size + 1) w1 v → v.cell? ⟨w.heap.size, 1, none⟩ = some (.slice ak nk ck) ∧ v.cell? ⟨w.heap.size, 2, none⟩ = some (.slice ad nd cd) := fun v hv => ⟨(o1.below hv (Nat.lt_succ_self _)).cell 1 rfl, (o1.below hv (Nat.lt_succ_self _)).cell 2 rfl⟩
  have hB2 : Below (w.heap.size + 1) w1 (w1.alloc (.cells #[] 43)) := b2.mono hlt1
  unfold GivesR
  go_enter Tryz.func78, Tryz.ntmps78
  go_wp2
  go_loopw [3, 4] (fun s i wr => ∃ (k K c2 : Nat) (q : Option Addr) (P : List EvR), k ≤ nk ∧ K ≤ k ∧ i = .int .i64 (k : Int) ∧ s = .slice q K c2 ∧ OwnZ encE 19 (w.heap.size + 1) 43 q K c2 P wr ∧ Hid (P = (m.kept.take k).filter fun r => r.e.kind == 1 && !hasD m.dead r.e.dot) ∧ Below (w.heap.size + 1) w1 wr) (fun _ i _ => nk - (intOf i).toNat)
  case atStart => exact ⟨0, 0, 0, _, [], Nat.zero_le _, Nat.le_refl _, rfl, rfl, (OwnZ.lit encE 19 43 w1).base hlt1, rfl, hB2⟩
  case round =>
    clear z2 b2 o2 hb2 hB2
    obtain ⟨k, K, c2, q, P, hk, hKk, rfl, rfl, hz, hP, hB⟩ := hrel
    obtain ⟨e1, e2⟩ := hK _ hB
    have hb : Below w.heap.size w wr := b1.trans (hB.mono (Nat.le_succ _))
    have hws : w.heap.size + 1 ≤ wr.heap.size := Nat.le_trans hlt1 hB.size
    by_cases hlt : k < nk
    · have hlt' : (k : Int) < (nk : Int) := by omega
      have i1 : (0 : Int) ≤ (k : Int) := by omega
      obtain ⟨r, g1, f1, A, hk1, rfl, hA, zA, lA, cA, kA⟩ := evr_at hM.kept k hlt
      have hE1 : OwnZ encE 19 (w.heap.size + 1) 43 q K c2 P wr := hz
      have hcells : ∀ v, Below w.heap.size w v → ∀ (j : Nat) (u : Value), (encE r)[j]? = some u → v.cell? ⟨g1, f1 + k * 19 + j, none⟩ = some u := fun v hv j u hu => kA v hv j u (by rw [← hA]; simpa using hu)
      have c6 := hcells _ hb 6 _ rfl
      have hst : (m.kept.take (k + 1)).filter (fun r => r.e.kind == 1 && !hasD m.dead r.e.dot) = (m.kept.take k).filter (fun r => r.e.kind == 1 && !hasD m.dead r.e.dot) ++ (if (r.e.kind == 1 && !hasD m.dead r.e.dot) = true then [r] else []) := by
        rw [take_snocI hk1, List.filter_append, List.filter_cons, List.filter_nil]
      have hfold : Array.foldl (fun cs x => cs.setIfInBounds x.snd x.fst) (#[.int .i64 0, .int .i64 0, .int .i64 0, .int .i64 0, .int .i64 0, .int .i64 0, .int .i64 0, .string ⟨#[]⟩, .string ⟨#[]⟩, .string ⟨#[]⟩, .string ⟨#[]⟩, .bool false, .bool false, .bool false, .bool false, .int .i64 0, .int .i64 0, .int .i64 0, .slice none 0 0] : Array Value) A.zipIdx 0 19 = A := foldSet A _ 19 zA rfl
      have HST := Lib.hid hst
      have HH := fun v hv => refHasDC ad nd cd m.dead r.e.dot v (hM.dead.below (w' := v) hv)
      clear hst cA hk1
      by_cases kd : r.e.kind = 1
      · rw [kd] at c6
        have k1 : (r.e.kind == 1) = true := beq_iff_eq.2 kd
        rw [k1, Bool.true_and] at HST
        have hS0 : ∀ w', Below wr.heap.size wr w' → w'.cell? ⟨w.heap.size, 1, none⟩ = some (.slice (some ⟨g1, f1, none⟩) nk ck) ∧ w'.cell? ⟨w.heap.size, 2, none⟩ = some (.slice ad nd cd) ∧ w'.cell? ⟨g1, f1 + k * 19, none⟩ = some (.int .i64 r.e.dot.dev) ∧ w'.cell? ⟨g1, f1 + k * 19 + 1, none⟩ = some (.int .i64 r.e.dot.inc) ∧ w'.cell? ⟨g1, f1 + k * 19 + 2, none⟩ = some (.int .i64 r.e.dot.seq) ∧ w'.cell? ⟨g1, f1 + k * 19 + 6, none⟩ = some (.int .i64 1) := fun w' h => by
          have h1 := hb.trans (h.mono hb.size)
          obtain ⟨e3, e4⟩ := hK _ (hB.trans (h.mono hws))
          have c6' := hcells _ h1 6 _ rfl
          rw [show (Value.int .i64 r.e.kind) = .int .i64 1 from by rw [kd]] at c6'
          exact ⟨e3, e4, hcells _ h1 0 _ rfl, hcells _ h1 1 _ rfl, hcells _ h1 2 _ rfl, c6'⟩
        have hB1 : Below wr.heap.size wr wr.drew := (Below.refl _ wr).drew
        have HH := fun v (hv : Below wr.heap.size wr v) => HH v (hb.trans (hv.mono hb.size))
        generalize hasD m.dead r.e.dot = T at *
        clear kd k1 c6
        cases T with
        | true =>
          go_wp2_with fail
          go_region_held3 (fun w' => w'.cell? ⟨w.heap.size, 1, none⟩ = some (.slice (some ⟨g1, f1, none⟩) nk ck) ∧ w'.cell? ⟨w.heap.size, 2, none⟩ = some (.slice ad nd cd) ∧ w'.cell? ⟨g1, f1 + k * 19, none⟩ = some (.int .i64 r.e.dot.dev) ∧ w'.cell? ⟨g1, f1 + k * 19 + 1, none⟩ = some (.int .i64 r.e.dot.inc) ∧ w'.cell? ⟨g1, f1 + k * 19 + 2, none⟩ = some (.int .i64 r.e.dot.seq) ∧ w'.cell? ⟨g1, f1 + k * 19 + 6, none⟩ = some (.int .i64 1)) (first | exact hS0 _ hB1)
            (first
              | (go_at_call 39; (with_reducible refine (HH _ hB1).mono ?_); rintro ex wx ⟨rfl, hx⟩; have hB1 := hB1.trans (hx.mono hB1.size); clear hx))
          all_goals (
            go_wp2
            go_roundw
            case rel => exact ⟨k + 1, K, c2, q, P, by omega, by omega, by go_num, rfl, hz.below hB1 (Nat.le_refl _), by unfold Hid; rw [HST.out, ← hP.out]; simp, hB.trans (hB1.mono hws)⟩
            case measure => simp [intOf]; omega)
        | false =>
          go_wp2_with fail
          go_region_held3 (fun w' => w'.cell? ⟨w.heap.size, 1, none⟩ = some (.slice (some ⟨g1, f1, none⟩) nk ck) ∧ w'.cell? ⟨w.heap.size, 2, none⟩ = some (.slice ad nd cd) ∧ w'.cell? ⟨g1, f1 + k * 19, none⟩ = some (.int .i64 r.e.dot.dev) ∧ w'.cell? ⟨g1, f1 + k * 19 + 1, none⟩ = some (.int .i64 r.e.dot.inc) ∧ w'.cell? ⟨g1, f1 + k * 19 + 2, none⟩ = some (.int .i64 r.e.dot.seq) ∧ w'.cell? ⟨g1, f1 + k * 19 + 6, none⟩ = some (.int .i64 1)) (first | exact hS0 _ hB1)
            (first
              | (go_at_call 39; (with_reducible refine (HH _ hB1).mono ?_); rintro ex wx ⟨rfl, hx⟩; have hB1 := hB1.trans (hx.mono hB1.size); clear hx))
          all_goals (
            have hb3 := hb.trans (hB1.mono hb.size)
            have hB3 := hB.trans (hB1.mono hws)
            have cA2 := kA _ hb3
            obtain ⟨e3, e4⟩ := hK _ hB3
            have hz2' := hz.below hB1 (Nat.le_refl _)
            have hbs : w.heap.size + 1 ≤ wx.heap.size := Nat.le_trans hlt1 hB3.size
            go_wp2_with (first
              | (refine wpList_loadRow rfl 43 _ rfl g1 (f1 + k * 19) 19 A rfl cA2 Tryz.isAgg43 Tryz.sizeOf43 zA ?_)
              | (at_builtin; refine wpList_append_row1 encE_len (by decide) encE_one rfl (.tmp 32) (.tmp 38) 28 rfl 43 i0 (.agg #[.int .i64 0, .int .i64 0, .int .i64 0, .int .i64 0, .int .i64 0, .int .i64 0, .int .i64 0, .string ⟨#[]⟩, .string ⟨#[]⟩, .string ⟨#[]⟩, .string ⟨#[]⟩, .bool false, .bool false, .bool false, .bool false, .int .i64 0, .int .i64 0, .int .i64 0, .slice none 0 0]) 176 Tryz.underlying28 hi hz0 hz1 hz2 rfl hz2' rfl r lA rfl (K + 1) rfl (by unfold maxLen; omega) (by omega) hbs ?_; intro q5 c5 w5 hz5 hx5 hg5 hn5))
            go_roundw
            case rel => exact ⟨k + 1, K + 1, c5, q5, _, by omega, by omega, by go_num, rfl, hz5, by unfold Hid; rw [HST.out, ← hP.out]; simp, hB3.trans hx5⟩
            case measure => simp [intOf]; omega)
      · have k1 : (r.e.kind == 1) = false := beq_eq_false_iff_ne.2 kd
        rw [k1, Bool.false_and] at HST
        generalize r.e.kind = kz at c6 k1
        clear HH
        go_wp2_with fail
        go_quiet (fail)
        go_wp2
        go_roundw
        case rel => exact ⟨k + 1, K, c2, q, P, by omega, by omega, by go_num, rfl, hz.below (drawn_below (Below.refl _ _) _) (Nat.le_refl _), by unfold Hid; rw [HST.out, ← hP.out]; simp, drawn_below hB _⟩
        case measure => simp [intOf]; omega
    · obtain rfl : k = nk := by omega
      have e : P = aliveR m := by
        unfold aliveR
        rw [hP.out, List.take_of_length_le (by rw [hlq]; exact Nat.le_refl _)]
      have HE := Lib.hid e
      clear e
      go_wp2
      go_ret
      exact ⟨q, K, c2, rfl, by rw [← HE.out]; exact hz.base (Nat.le_succ _), hb⟩
def keyR (m : MapR) (x : ItemL) : List EvR := (aliveR m).filter fun r => sameKey r.e.item x
theorem key_map (m : MapR) (x : ItemL) : (keyR m x).map (·.e) = keyM m.plain x := by
  unfold keyR keyM
  rw [← alive_map, List.filter_map]
  rfl
set_option maxHeartbeats 1000000 in
set_option maxRecDepth 100000 in
theorem refKeyC (ac : Option Addr) (nc cc : Nat) (ak : Option Addr) (nk ck : Nat) (ad : Option Addr) (nd cd : Nat) (m : MapR) (x : ItemL) (w : World) (hM : RowM w ac nc cc ak nk ck ad nd cd m) (hn : nk ≤ 100000) :
    Calls Tryz.prog 34 #[.agg #[.slice ac nc cc, .slice ak nk ck, .slice ad nd cd], .agg #[.string (str x.name), .string (str x.dom), .string (str x.path)]] w (GivesR (keyR m x) w) := by
  obtain ⟨i0, hi, hz0, hz1, hz2⟩ := info_parts infoEvent
  obtain ⟨o1, k1, b1⟩ := objsE2 w #[.slice ac nc cc, .slice ak nk ck, .slice ad nd cd] #[.string (str x.name), .string (str x.dom), .string (str x.path)] 31 39
  have hM1 := hM.below b1
  have hlt1 := o1.lt; have hlt2 := k1.lt
  generalize hw1 : (w.alloc (.cells #[.slice ac nc cc, .slice ak nk ck, .slice ad nd cd] 31)).alloc (.cells #[.string (str x.name), .string (str x.dom), .string (str x.path)] 39) = w1 at *
  have hlen : (aliveR m).length ≤ 100000 := by
    have h1 := alive_few m
    have h2 := hM.kept.leq
    omega
  have b2 := below_alloc w1 (.cells #[] 43)
  have hb2 := b1.trans (b2.mono b1.size)
  have o2 := o1.below b2 hlt1; have k2 := k1.below b2 hlt2
  have m0 := o2.cell 0 rfl; have m1 := o2.cell 1 rfl; have m2 := o2.cell 2 rfl
  have HA := refAliveC ac nc cc ak nk ck ad nd cd m _ (hM.below hb2) hn
  have z2 := OwnZ.lit encE 19 43 w1
  unfold keyR GivesR
  generalize aliveR m = P0 at *
  go_enter Tryz.func34, Tryz.ntmps34
  go_wp2_with (go_at_call 78; (with_reducible refine HA.mono ?_); rintro e w3 ⟨qa, na, ca, rfl, hzA, hx3⟩)
  have hb3 := hb2.trans (hx3.mono hb2.size)
  have hz3 := (z2.below hx3 (Nat.le_refl _)).base b1.size
  have k3 := k2.below hx3 (k2.lt)
  have hrA := hzA.row encE_len
  have hlA := hzA.lt'
  have hof : Off (some ⟨w1.heap.size, 0, none⟩) qa := fun k h1 h2 => by
    have := at_some.1 h1
    have h3 := (hlA k h2).1
    have h4 : (w1.alloc (.cells #[] 43)).heap.size = w1.heap.size + 1 := by simp
    rw [h4] at h3
    simp only at this
    omega
  have hae := fun k hk => (hlA k hk).2
  have hPl : P0.length = na := hrA.leq
  have hna : na ≤ 100000 := by rw [← hPl]; exact hlen
  have hcm := hrA.capm
  have hcl := hrA.cle
  unfold maxLen at hcm
  have hkl := k3.lt
  clear HA hzA hlA z2 hM hM1 o1 k1 o2 k2 m0 m1 m2 b2 hx3 hlen
  go_loopw [5, 7] (fun s i wr => ∃ (k K c2 : Nat) (q : Option Addr) (P : List EvR), k ≤ na ∧ K ≤ k ∧ i = .int .i64 (k : Int) ∧ s = .slice q K c2 ∧ OwnZ encE 19 w.heap.size 43 q K c2 P wr ∧ RowOf encE 19 wr qa na ca P0 ∧ ObjAt wr (w.heap.size + 1) [.string (str x.name), .string (str x.dom), .string (str x.path)] ∧ Off q qa ∧ (∀ k, At q k → k ≠ w.heap.size + 1) ∧ Hid (P = (P0.take k).filter fun r => sameKey r.e.item x) ∧ w3.heap.size ≤ wr.heap.size ∧ Below w.heap.size w wr) (fun _ i _ => na - (intOf i).toNat)
  case atStart => exact ⟨0, 0, 0, _, [], Nat.zero_le _, Nat.le_refl _, rfl, rfl, hz3, hrA, k3, hof, fun k hk => by have := at_some.1 hk; simp only at this; omega, rfl, Nat.le_refl _, hb3⟩
  case round =>
    clear hz3 hrA k3 hof hb3
    obtain ⟨k, K, c2, q, P, hk, hKk, rfl, rfl, hz, hrA, hkx, hof, hnk, hP, hsz, hb⟩ := hrel
    by_cases hlt : k < na
    · have hlt' : (k : Int) < (na : Int) := by omega
      have i1 : (0 : Int) ≤ (k : Int) := by omega
      have hrA0 := hrA
      obtain ⟨r, g1, f1, A, hk1, rfl, hA, zA, lA, cA, kA⟩ := evr_at hrA k hlt
      have c7 := cA 7 _ (by rw [lA]; rfl); have c8 := cA 8 _ (by rw [lA]; rfl); have c9 := cA 9 _ (by rw [lA]; rfl)
      have x0 := hkx.cell 0 rfl; have x1 := hkx.cell 1 rfl; have x2 := hkx.cell 2 rfl
      have hE := fun v => eqKeyE r.e.item x v
      have hst : (P0.take (k + 1)).filter (fun r => sameKey r.e.item x) = (P0.take k).filter (fun r => sameKey r.e.item x) ++ (if sameKey r.e.item x = true then [r] else []) := by
        rw [take_snocI hk1, List.filter_append, List.filter_cons, List.filter_nil]
      have HST := Lib.hid hst
      have hfold : Array.foldl (fun cs x => cs.setIfInBounds x.snd x.fst) (#[.int .i64 0, .int .i64 0, .int .i64 0, .int .i64 0, .int .i64 0, .int .i64 0, .int .i64 0, .string ⟨#[]⟩, .string ⟨#[]⟩, .string ⟨#[]⟩, .string ⟨#[]⟩, .bool false, .bool false, .bool false, .bool false, .int .i64 0, .int .i64 0, .int .i64 0, .slice none 0 0] : Array Value) A.zipIdx 0 19 = A := foldSet A _ 19 zA rfl
      clear hst hk1
      have bd : Below wr.heap.size wr wr.drew := (Below.refl _ wr).drew
      have hz1' := hz.below bd (Nat.le_refl _)
      have hr1 := hrA0.below bd
      have hk1' := hkx.drew
      have cA1 := kA _ bd
      have hb1 := hb.trans (bd.mono hb.size)
      have hbs : w.heap.size ≤ wr.drew.heap.size := hb1.size
      generalize sameKey r.e.item x = T at *
      clear hz hrA hkx cA kA hb
      go_wp2_with fail
      go_region
      cases T with
      | true =>
        rw [if_pos rfl] at HST
        all_goals (
          go_wp2_with (first
            | (refine wpList_loadRow rfl 43 _ rfl g1 (f1 + k * 19) 19 A rfl cA1 Tryz.isAgg43 Tryz.sizeOf43 zA ?_)
            | (at_builtin; refine wpList_append_row1 encE_len (by decide) encE_one rfl (.tmp 24) (.tmp 29) 28 rfl 43 i0 (.agg #[.int .i64 0, .int .i64 0, .int .i64 0, .int .i64 0, .int .i64 0, .int .i64 0, .int .i64 0, .string ⟨#[]⟩, .string ⟨#[]⟩, .string ⟨#[]⟩, .string ⟨#[]⟩, .bool false, .bool false, .bool false, .bool false, .int .i64 0, .int .i64 0, .int .i64 0, .slice none 0 0]) 176 Tryz.underlying28 hi hz0 hz1 hz2 rfl hz1' rfl r lA rfl (K + 1) rfl (by unfold maxLen; omega) (by omega) hbs ?_; intro q5 c5 w5 hz5 hx5 hg5 hn5))
          have k5 := Keeps.ofGrown hx5 hg5
          go_roundw
          case rel => exact ⟨k + 1, K + 1, c5, q5, _, by omega, by omega, by go_num, rfl, hz5, hr1.keeps k5 (fun j h1 h2 => hof j h2 h1), hk1'.keeps k5 (fun h => hnk _ h rfl), hof.moved hn5 (fun j hj => Nat.lt_of_lt_of_le (hae j hj) hsz), fun j hj => hn5.elim (fun e => hnk j (e ▸ hj)) (fun ⟨g, e, hg⟩ => by rw [e] at hj; have := at_some.1 hj; simp only at this; have := hk1'.lt; omega), by unfold Hid; rw [HST.out, ← hP.out], Nat.le_trans hsz k5.size, hb1.trans hx5⟩
          case measure => simp [intOf]; omega)
      | false =>
        rw [if_neg Bool.false_ne_true, List.append_nil] at HST
        all_goals (
          go_wp2
          go_roundw
          case rel => exact ⟨k + 1, K, c2, q, P, by omega, by omega, by go_num, rfl, hz1', hr1, hk1', hof, hnk, by unfold Hid; rw [HST.out]; exact hP.out, hsz, hb1⟩
          case measure => simp [intOf]; omega)
    · obtain rfl : na = k := by omega
      have e0 : P = P0.filter fun r => sameKey r.e.item x := by
        rw [hP.out, List.take_of_length_le (by omega)]
      have HE := Lib.hid e0
      clear e0
      go_wp2
      go_ret
      exact ⟨q, K, c2, rfl, by rw [← HE.out]; exact hz, hb⟩
set_option maxRecDepth 100000 in
theorem refTLessC (s t : StampN) (w : World) :
    Calls Tryz.prog 82 #[valT s, valT t] w fun e w' => e = .returned (.bool (lessT s t)) ∧ Below w.heap.size w w' := by
  obtain ⟨a, b, d⟩ := s
  obtain ⟨f, g, h⟩ := t
  unfold valT lessT
  dsimp only
  obtain ⟨o1, o2, hb⟩ := objs2 w #[.int .i64 a, .int .i64 b, .int .i64 d] #[.int .i64 f, .int .i64 g, .int .i64 h] 37 37
  have u0 := o1.cell 0 rfl; have u1 := o1.cell 1 rfl; have u2 := o1.cell 2 rfl
  have v0 := o2.cell 0 rfl; have v1 := o2.cell 1 rfl; have v2 := o2.cell 2 rfl
  clear o1 o2
  by_cases q0 : a = f
  · subst q0
    rw [if_neg (by simp)]
    by_cases q1 : b = g
    · subst q1
      rw [if_neg (by simp)]
      go_enter Tryz.func82, Tryz.ntmps82
      go_wp2
      go_ret
      exact ⟨rfl, hb⟩
    · rw [if_pos q1]
      go_enter Tryz.func82, Tryz.ntmps82
      go_wp2
      go_ret
      exact ⟨rfl, hb⟩
  · rw [if_pos q0]
    go_enter Tryz.func82, Tryz.ntmps82
    go_wp2
    go_ret
    exact ⟨rfl, hb⟩
def winnerR (m : MapR) (x : ItemL) : Option EvR := (keyR m x).foldl bestR none
theorem best_map (l : List EvR) : ∀ b : Option EvR, (l.foldl bestR b).map (·.e) = (l.map (·.e)).foldl bestM (b.map (·.e)) := by
  induction l with
  | nil => exact fun b => rfl
  | cons r t ih =>
    intro b
    rw [List.foldl_cons, List.map_cons, List.foldl_cons, ih]
    congr 1
    rcases b with _ | y
    · rfl
    · unfold bestR bestM
      dsimp only [Option.map_some]
      split <;> rfl
theorem winner_map (m : MapR) (x : ItemL) : (winnerR m x).map (·.e) = winnerM m.plain x := by
  unfold winnerR winnerM
  rw [best_map, key_map]
  rfl
theorem best_some (l : List EvR) : ∀ r : EvR, ∃ y, l.foldl bestR (some r) = some y := by
  induction l with
  | nil => exact fun r => ⟨r, rfl⟩
  | cons z t ih =>
    intro r
    rw [List.foldl_cons]
    unfold bestR
    dsimp only
    split
    · exact ih r
    · exact ih z
set_option maxHeartbeats 2000000 in
set_option maxRecDepth 100000 in
theorem refWinnerC (ac : Option Addr) (nc cc : Nat) (ak : Option Addr) (nk ck : Nat) (ad : Option Addr) (nd cd : Nat) (m : MapR) (x : ItemL) (w : World) (hM : RowM w ac nc cc ak nk ck ad nd cd m) (hn : nk ≤ 100000) :
    Calls Tryz.prog 31 #[.agg #[.slice ac nc cc, .slice ak nk ck, .slice ad nd cd], .agg #[.string (str x.name), .string (str x.dom), .string (str x.path)]] w fun en w' => en = .returned (.tuple #[.agg (encO (winnerR m x)).toArray, .bool (winnerR m x).isSome]) ∧ Below w.heap.size w w' := by
  obtain ⟨Z, hZ⟩ : ∃ Z, (#[.int .i64 0, .int .i64 0, .int .i64 0, .int .i64 0, .int .i64 0, .int .i64 0, .int .i64 0, .string ⟨#[]⟩, .string ⟨#[]⟩, .string ⟨#[]⟩, .string ⟨#[]⟩, .bool false, .bool false, .bool false, .bool false, .int .i64 0, .int .i64 0, .int .i64 0, .slice none 0 0] : Array Value) = Z := ⟨_, rfl⟩
  have zZ : Z.size = 19 := by rw [← hZ]; rfl
  have lZ : Z.toList = encO none := by rw [← hZ]; rfl
  have oZ : Z.all (·.oneCell') = true := by rw [← hZ]; exact encO_one none
  obtain ⟨o1, k1, b1⟩ := objsE2 w #[.slice ac nc cc, .slice ak nk ck, .slice ad nd cd] #[.string (str x.name), .string (str x.dom), .string (str x.path)] 31 39
  have hlt1 := o1.lt; have hlt2 := k1.lt
  generalize hw1 : (w.alloc (.cells #[.slice ac nc cc, .slice ak nk ck, .slice ad nd cd] 31)).alloc (.cells #[.string (str x.name), .string (str x.dom), .string (str x.path)] 39) = w1 at *
  have z2 := ObjAt.new w1 Z 43
  have b2 := below_alloc w1 (.cells Z 43)
  have hzl := z2.lt
  have o2 := o1.below b2 hlt1; have k2 := k1.below b2 hlt2
  have hb2 := b1.trans (b2.mono b1.size)
  generalize hw2 : w1.alloc (.cells Z 43) = w2 at *
  have m0 := o2.cell 0 rfl; have m1 := o2.cell 1 rfl; have m2 := o2.cell 2 rfl
  have x0 := k2.cell 0 rfl; have x1 := k2.cell 1 rfl; have x2 := k2.cell 2 rfl
  have HK := refKeyC ac nc cc ak nk ck ad nd cd m x w2 (hM.below hb2) hn
  have hlen : (keyR m x).length ≤ 100000 := by
    have h1 := alive_few m
    have h2 := hM.kept.leq
    have h3 : (keyR m x).length ≤ (aliveR m).length := List.length_filter_le _ _
    omega
  unfold winnerR
  generalize keyR m x = L at *
  clear hM o1 k1
  go_enter Tryz.func31, Tryz.ntmps31
  go_wp2_with (first
    | (go_at_call 34; (with_reducible refine HK.mono ?_); rintro e w3 ⟨ql, nl, cl, rfl, hzl3, hx3⟩)
    | (refine wpList_storeAll rfl 43 _ _ rfl Z Z 19 rfl rfl (by kernel_rfl) zZ zZ oZ ?_))
  have hrL := hzl3.row encE_len
  have hat := hzl3.lt'
  have hln := hrL.leq
  have hcl := hrL.cle
  have hcm := hrL.capm
  unfold maxLen at hcm
  have b4 := below_alloc w3 (.cells Z 43)
  have o4 := ObjAt.new w3 Z 43
  have z4 := (z2.below hx3 hzl).below b4 (Nat.lt_of_lt_of_le hzl hx3.size)
  have hb4 := (hb2.trans (hx3.mono hb2.size)).trans (b4.mono (Nat.le_trans hb2.size hx3.size))
  have h23 := hx3.size
  have hw1s := b1.size
  have hrow : ∀ v, Keeps (fun b => b = w3.heap.size) (w3.alloc (.cells Z 43)) v → RowOf encE 19 v ql nl cl L := fun v hk => (hrL.below b4).keeps hk (fun j hj e => by have := (hat j hj).2; omega)
  have hres : ∀ v, Keeps (fun b => b = w3.heap.size) (w3.alloc (.cells Z 43)) v → ObjAt v w1.heap.size Z.toList := fun v hk => z4.keeps hk (by omega)
  have hsz4 : (w3.alloc (.cells Z 43)).heap.size = w3.heap.size + 1 := by simp
  have hbel : ∀ v, Keeps (fun b => b = w3.heap.size) (w3.alloc (.cells Z 43)) v → Below w.heap.size w v := fun v hk => hb4.trans (hk.below hb4.size (fun b _ e => by rw [e]; have := hb2.size; omega))
  rw [lZ] at o4
  obtain ⟨wb, hwb⟩ : ∃ wb, w3.heap.size = wb := ⟨_, rfl⟩
  rw [hwb] at o4 hrow hres hbel hsz4
  have hlen' : nl ≤ 100000 := by omega
  have hz9 : Z.toList.length = 19 := by rw [Array.length_toList]; exact zZ
  clear HK hzl3 hrL hat z4 z2 b4 hb4 hx3 h23 o2 k2 m0 m1 m2 x0 x1 x2 b1 b2 hb2 hlt1 hlt2 hlen hw1 hw2
  simp only [hwb]
  generalize hw4 : w3.alloc (.cells Z 43) = w4 at *
  clear hw4 hwb
  go_loopw [8] (fun i wr => ∃ (k : Nat), k ≤ nl ∧ i = .int .i64 (k : Int) ∧ ObjAt wr wb (encO ((L.take k).foldl bestR none)) ∧ Keeps (fun b => b = wb) w4 wr) (fun i _ => nl - (intOf i).toNat)
  case atStart => exact ⟨0, Nat.zero_le _, rfl, o4, Keeps.refl _ _⟩
  case round =>
    clear o4
    obtain ⟨k, hk, rfl, hO, hK⟩ := hrel
    by_cases hlt : k < nl
    · have hlt' : (k : Int) < (nl : Int) := by omega
      have i1 : (0 : Int) ≤ (k : Int) := by omega
      obtain ⟨r, g1, f1, A, hk1, rfl, hA, zA, lA, cA, kA⟩ := evr_at (hrow wr hK) k hlt
      have oA : A.all (·.oneCell') = true := by rw [← hA]; exact encO_one (some r)
      have hst : (L.take (k + 1)).foldl bestR none = bestR ((L.take k).foldl bestR none) r := by rw [take_snocI hk1, List.foldl_append]; rfl
      by_cases k0 : k = 0
      · have hst0 : (L.take (k + 1)).foldl bestR none = some r := by rw [hst, k0]; rfl
        have HST := Lib.hid hst0
        have t0 : ((k : Int) == 0) = true := by rw [k0]; rfl
        have cA1 := fun q => kA _ (drawn_below (Below.refl wr.heap.size wr) q)
        have hO1 := fun q => hO.drewN q
        have hSR : ∀ q, ObjAt ((wr.drewN q).setRow wb A) wb (encE r) := fun q => by
          have := (hO1 q).setRow A
          rw [lA] at this
          exact this
        clear hst hst0 hk1 cA kA k0
        go_wp2_with fail
        go_quiet (fail)
        go_wp2_with (first
          | (refine wpList_loadRow rfl 43 _ rfl g1 (f1 + k * 19) 19 A rfl (cA1 _) Tryz.isAgg43 Tryz.sizeOf43 zA ?_)
          | (refine wpList_storeOver rfl 43 _ _ rfl wb _ A 19 rfl rfl (hO1 _) (by kernel_rfl) (encO_size _) zA oA ?_))
        go_roundw
        case rel => exact ⟨k + 1, by omega, by go_num, by rw [HST.out]; exact hSR _, (hK.trans (Keeps.new (F := fun b => b = wb) (drawn_below (Below.refl wr.heap.size wr) _)) (fun _ _ h => h)).setRow rfl A⟩
        case measure => simp [intOf]; omega
      · obtain ⟨y, hy⟩ : ∃ y, (L.take k).foldl bestR none = some y := by
          rcases L with _ | ⟨z, t⟩
          · rw [List.length_nil] at hln; omega
          · obtain ⟨j, rfl⟩ : ∃ j, k = j + 1 := ⟨k - 1, by omega⟩
            rw [List.take_succ_cons, List.foldl_cons]
            exact best_some _ z
        rw [hy] at hO hst
        have t0 : ((k : Int) == 0) = false := by rw [beq_eq_false_iff_ne]; omega
        have hO' : ObjAt wr wb (encE y) := hO
        have HL := fun v => refTLessC r.e.stamp y.e.stamp v
        unfold valT at HL
        have hS0 : ∀ w', Below wr.heap.size wr w' → w'.cell? ⟨g1, f1 + k * 19 + 3, none⟩ = some (.int .i64 r.e.stamp.wall) ∧ w'.cell? ⟨g1, f1 + k * 19 + 4, none⟩ = some (.int .i64 r.e.stamp.count) ∧ w'.cell? ⟨g1, f1 + k * 19 + 5, none⟩ = some (.int .i64 r.e.stamp.dev) ∧ w'.cell? ⟨wb, 3, none⟩ = some (.int .i64 y.e.stamp.wall) ∧ w'.cell? ⟨wb, 4, none⟩ = some (.int .i64 y.e.stamp.count) ∧ w'.cell? ⟨wb, 5, none⟩ = some (.int .i64 y.e.stamp.dev) := fun w' h => by
          have c1 := kA w' h
          have o2 := hO'.below h hO.lt
          rw [lA] at c1
          exact ⟨c1 3 _ rfl, c1 4 _ rfl, c1 5 _ rfl, o2.cell 3 rfl, o2.cell 4 rfl, o2.cell 5 rfl⟩
        have hdr : Below wr.heap.size wr wr.drew := (Below.refl _ wr).drew
        rw [show bestR (some y) r = if lessT r.e.stamp y.e.stamp = true then some y else some r from rfl] at hst
        cases hT : lessT r.e.stamp y.e.stamp with
        | true =>
          rw [hT] at HL hst
          rw [if_pos rfl] at hst
          have HST := Lib.hid hst
          clear hst hk1 cA k0 hT hy
          go_wp2_with fail
          go_region_held3 (fun w' => w'.cell? ⟨g1, f1 + k * 19 + 3, none⟩ = some (.int .i64 r.e.stamp.wall) ∧ w'.cell? ⟨g1, f1 + k * 19 + 4, none⟩ = some (.int .i64 r.e.stamp.count) ∧ w'.cell? ⟨g1, f1 + k * 19 + 5, none⟩ = some (.int .i64 r.e.stamp.dev) ∧ w'.cell? ⟨wb, 3, none⟩ = some (.int .i64 y.e.stamp.wall) ∧ w'.cell? ⟨wb, 4, none⟩ = some (.int .i64 y.e.stamp.count) ∧ w'.cell? ⟨wb, 5, none⟩ = some (.int .i64 y.e.stamp.dev))
            (first | exact hS0 _ hdr | exact hS0 _ (hdr.trans hx))
            (first | (go_at_call 82; (with_reducible refine (HL _).mono ?_); rintro e w5 ⟨rfl, hx⟩))
          all_goals (
            have hb5 := hdr.trans hx
            go_wp2
            go_roundw
            case rel => exact ⟨k + 1, by omega, by go_num, by rw [HST.out]; exact hO'.below hb5 hO'.lt, hK.trans (Keeps.new (F := fun b => b = wb) hb5) (fun _ _ h => h)⟩
            case measure => simp [intOf]; omega)
        | false =>
          rw [hT] at HL hst
          rw [if_neg Bool.false_ne_true] at hst
          have HST := Lib.hid hst
          clear hst hk1 cA k0 hT hy
          go_wp2_with fail
          go_region_held3 (fun w' => w'.cell? ⟨g1, f1 + k * 19 + 3, none⟩ = some (.int .i64 r.e.stamp.wall) ∧ w'.cell? ⟨g1, f1 + k * 19 + 4, none⟩ = some (.int .i64 r.e.stamp.count) ∧ w'.cell? ⟨g1, f1 + k * 19 + 5, none⟩ = some (.int .i64 r.e.stamp.dev) ∧ w'.cell? ⟨wb, 3, none⟩ = some (.int .i64 y.e.stamp.wall) ∧ w'.cell? ⟨wb, 4, none⟩ = some (.int .i64 y.e.stamp.count) ∧ w'.cell? ⟨wb, 5, none⟩ = some (.int .i64 y.e.stamp.dev))
            (first | exact hS0 _ hdr | exact hS0 _ (hdr.trans hx))
            (first | (go_at_call 82; (with_reducible refine (HL _).mono ?_); rintro e w5 ⟨rfl, hx⟩))
          all_goals (
            have hb5 := hdr.trans hx
            have hO5 := hO'.below hb5 hO'.lt
            have cA5 := kA _ hb5
            go_wp2_with (first
              | (refine wpList_loadRow rfl 43 _ rfl g1 (f1 + k * 19) 19 A rfl cA5 Tryz.isAgg43 Tryz.sizeOf43 zA ?_)
              | (refine wpList_storeOver rfl 43 _ _ rfl wb _ A 19 rfl rfl hO5 (by kernel_rfl) rfl zA oA ?_))
            go_roundw
            case rel => exact ⟨k + 1, by omega, by go_num, by rw [HST.out]; have := hO5.setRow A; rw [lA] at this; exact this, (hK.trans (Keeps.new (F := fun b => b = wb) hb5) (fun _ _ h => h)).setRow rfl A⟩
            case measure => simp [intOf]; omega)
    · obtain rfl : nl = k := by omega
      have e0 : L.take nl = L := List.take_of_length_le (by omega)
      rw [e0] at hO
      have hres1 := hres _ hK
      have hb9 := hbel _ hK
      have hiso : (L.foldl bestR none).isSome = decide (0 < nl) := by
        rcases L with _ | ⟨z, t⟩
        · rw [List.length_nil] at hln
          subst hln
          rfl
        · obtain ⟨y, hy⟩ := best_some t z
          rw [List.foldl_cons, show bestR none z = some z from rfl, hy, decide_eq_true (by rw [List.length_cons] at hln; omega)]
          rfl
      obtain ⟨BO, hBO⟩ : ∃ BO, (encO (L.foldl bestR none)).toArray = BO := ⟨_, rfl⟩
      have zB : BO.size = 19 := by rw [← hBO]; exact encO_size _
      have oB : BO.all (·.oneCell') = true := by rw [← hBO]; exact encO_one _
      have lB : BO.toList = encO (L.foldl bestR none) := by rw [← hBO]
      rw [← lB] at hO
      have HI := Lib.hid hiso
      have HB := Lib.hid hBO
      clear hiso hBO lB e0
      go_wp2_with (first
        | (refine wpList_loadAll rfl 43 _ rfl wb 19 BO rfl hO Tryz.isAgg43 Tryz.sizeOf43 zB ?_)
        | (refine wpList_storeOver rfl 43 _ _ rfl w1.heap.size _ BO 19 rfl rfl hres1 (by kernel_rfl) hz9 zB oB ?_))
      have hfin := hres1.setRow BO
      have HLV := loadVarBig (P := Tryz.prog) 43 w1.heap.size 19 BO hfin Tryz.isAgg43 Tryz.sizeOf43 zB
      exact bodyPost_ret (v := .tuple #[.agg BO, .bool (decide (0 < nl))]) (results_big2 Tryz.results31 rfl rfl HLV) rfl ⟨by rw [HB.out, HI.out], below_rowSet hb9 (by omega) BO⟩
theorem bestR_in (l : List EvR) : ∀ b : Option EvR, ∀ y, l.foldl bestR b = some y → y ∈ l ∨ b = some y := by
  induction l with
  | nil => exact fun b y h => .inr h
  | cons r t ih =>
    intro b y h
    rcases ih _ y h with h1 | h1
    · exact .inl (List.mem_cons_of_mem _ h1)
    · unfold bestR at h1
      split at h1
      · cases h1; exact .inl List.mem_cons_self
      · split at h1
        · exact .inr h1
        · cases h1; exact .inl List.mem_cons_self
theorem alive_in {m : MapR} {r : EvR} (h : r ∈ aliveR m) : r ∈ m.kept := (List.mem_filter.1 h).1
theorem winner_in {m : MapR} {x : ItemL} {y : EvR} (h : winnerR m x = some y) : y ∈ m.kept := by
  rcases bestR_in _ _ _ h with h1 | h1
  · exact alive_in (List.mem_filter.1 h1).1
  · cases h1
end Go.Proofs.YtaodjnkjjmhecaaGreatDoor
