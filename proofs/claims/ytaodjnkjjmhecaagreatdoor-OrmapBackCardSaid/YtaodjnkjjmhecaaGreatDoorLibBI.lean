/- Contracts and plain words that the laws' proofs stand on. -/
import Derived.Test.YtaodjnkjjmhecaaGreatDoorLibAX
import Derived.Test.YtaodjnkjjmhecaaGreatDoorOrCheckK
import Derived.Test.YtaodjnkjjmhecaaGreatDoorLibAG
import Derived.Test.YtaodjnkjjmhecaaGreatDoorLibBL
namespace Go.Proofs.YtaodjnkjjmhecaaGreatDoor
open Go.RowKit
set_option linter.unusedVariables false
def deadZ : DotN → List DotN → Int
  | _, [] => 0
  | z, d :: t => if rightD d = false then 4 else if lessD z d = false then 6 else deadZ d t
theorem deadZ_some : ∀ (L : List DotN) (z : DotN), deadF (some z) L = deadZ z L
  | [], z => rfl
  | d :: t, z => by
    unfold deadF deadZ
    rw [deadZ_some t d, Option.map_some]
    cases lessD z d <;> simp
theorem deadZ_none (L : List DotN) : deadF none L = deadZ ⟨0, 0, 0⟩ L := by
  cases L with
  | nil => rfl
  | cons d t =>
    unfold deadF deadZ
    rw [deadZ_some t d]
    cases hr : rightD d with
    | false => rfl
    | true =>
      rw [zero_less hr]
      simp
theorem deadZ_drop {z : DotN} {L : List DotN} {k : Nat} {d : DotN} (h : L[k]? = some d) : deadZ z (L.drop k) = if rightD d = false then 4 else if lessD z d = false then 6 else deadZ d (L.drop (k + 1)) := by
  obtain ⟨hk, rfl⟩ := List.getElem?_eq_some_iff.1 h
  rw [List.drop_eq_getElem_cons hk]
  rfl
set_option maxHeartbeats 4000000 in
set_option maxRecDepth 100000 in
theorem checkDeadC (a : Option Addr) (n c : Nat) (L : List DotN) (w : World) (hL : RowOf encD 3 w a n c L) :
    Calls Tryz.prog 98 #[.slice a n c] w fun e w' => e = .returned (.int .i64 (deadF none L)) ∧ Below w.heap.size w w' := by
  rw [deadZ_none]
  have hcm := hL.capm
  have hcl := hL.cle
  have hleq := hL.leq
  unfold maxLen at hcm
  obtain ⟨G, hG⟩ : ∃ G, deadZ ⟨0, 0, 0⟩ L = G := ⟨_, rfl⟩
  rw [hG]
  have E0 : Hid (G = deadZ ⟨0, 0, 0⟩ (L.drop 0)) := by unfold Hid; rw [List.drop_zero, hG]
  clear hG
  have o0 := ObjAt.new w #[.int .i64 0, .int .i64 0, .int .i64 0] 35
  have b0 := below_alloc w (.cells #[.int .i64 0, .int .i64 0, .int .i64 0] 35)
  obtain ⟨b3, hb3⟩ : ∃ x, w.heap.size = x := ⟨_, rfl⟩
  rw [hb3] at o0
  generalize hw0 : w.alloc (.cells #[.int .i64 0, .int .i64 0, .int .i64 0] 35) = w0 at *
  have HL := Lib.hid hL
  have Hn := Lib.hid hleq
  clear hL hleq
  go_enter Tryz.func98, Tryz.ntmps98
  go_wp2
  go_loopw [8] (fun i wr => ∃ (k : Nat) (z : DotN), k ≤ n ∧ i = .int .i64 (k : Int) ∧ Hid (G = deadZ z (L.drop k)) ∧ ObjAt wr b3 (encD z) ∧ Below w.heap.size w wr) (fun i _ => n - (intOf i).toNat)
  case atStart => exact ⟨0, ⟨0, 0, 0⟩, Nat.zero_le _, rfl, E0, o0, b0⟩
  case round =>
    clear b0 E0 o0
    obtain ⟨k, z, hk, rfl, hs, oz, hb⟩ := hrel
    by_cases hlt : k < n
    · have hlt' : (k : Int) < (n : Int) := by omega
      have g1' : decide ((k : Int) < (n : Int)) = true := decide_eq_true hlt'
      have i1 : (0 : Int) ≤ (k : Int) := by omega
      obtain ⟨y, g, off, hy, rfl, d0, d1, d2⟩ := dot_at (HL.out.below hb) k hlt
      have hd := deadZ_drop (z := z) hy
      have HR := fun v => dotRightC0 y v
      have HS := fun v => dotLessG z y v
      have o1 := ObjAt.new wr #[.int .i64 y.dev, .int .i64 y.inc, .int .i64 y.seq] 35
      have b1 := below_alloc wr (.cells #[.int .i64 y.dev, .int .i64 y.inc, .int .i64 y.seq] 35)
      have hb1 := hb.trans (b1.mono hb.size)
      have u0 := o1.cell 0 rfl; have u1 := o1.cell 1 rfl; have u2 := o1.cell 2 rfl
      have hlt1 := o1.lt
      have oz1 := oz.below b1 oz.lt
      have hlz := oz1.lt
      have hne : b3 ≠ wr.heap.size := by have := oz.lt; omega
      generalize hw1 : wr.alloc (.cells #[.int .i64 y.dev, .int .i64 y.inc, .int .i64 y.seq] 35) = w1 at *
      have hB1 := Below.refl w1.heap.size w1
      clear oz
      cases hr : rightD y with
      | false =>
        have e : Hid (G = 4) := by unfold Hid; rw [hs.out, hd, if_pos hr]
        simp only [hr] at HR
        clear hd hs hr hy HS
        go_wp2_with (go_at_call 109; (with_reducible refine (HR _).mono ?_); rintro e w3 ⟨rfl, hx⟩; have hB1 := hB1.trans (hx.mono hB1.size))
        go_ret
        exact ⟨by rw [e.out]; rfl, hb1.trans (hB1.mono hb1.size)⟩
      | true =>
        simp only [hr] at HR
        rw [if_neg (by rw [hr]; exact Bool.noConfusion)] at hd
        cases hz : lessD z y with
        | false =>
          have e : Hid (G = 6) := by unfold Hid; rw [hs.out, hd, if_pos hz]
          simp only [hz] at HS
          clear hd hs hr hy hz
          go_wp2_with (first
            | (go_at_call 109; (with_reducible refine (HR _).mono ?_); rintro e w3 ⟨rfl, hx⟩; have hB1 := hB1.trans (hx.mono hB1.size); have o3 := o1.below hx hlt1; have z3 := oz1.below hx hlz; have u0 := o3.cell 0 rfl; have u1 := o3.cell 1 rfl; have u2 := o3.cell 2 rfl; have y0 := z3.cell 0 rfl; have y1 := z3.cell 1 rfl; have y2 := z3.cell 2 rfl)
            | (go_at_call 139; (with_reducible refine (HS _).mono ?_); rintro e w4 ⟨rfl, hx4⟩; have hB1 := hB1.trans (hx4.mono hB1.size)))
          go_ret
          exact ⟨by rw [e.out]; rfl, hb1.trans (hB1.mono hb1.size)⟩
        | true =>
          have e : Hid (G = deadZ y (L.drop (k + 1))) := by unfold Hid; rw [hs.out, hd, if_neg (by rw [hz]; exact Bool.noConfusion)]
          simp only [hz] at HS
          clear hd hs hr hy hz
          go_wp2_with (first
            | (go_at_call 109; (with_reducible refine (HR _).mono ?_); rintro e w3 ⟨rfl, hx⟩; have hB1 := hB1.trans (hx.mono hB1.size); have o3 := o1.below hx hlt1; have z3 := oz1.below hx hlz; have hl3 := o3.lt; have lz3 := z3.lt; have u0 := o3.cell 0 rfl; have u1 := o3.cell 1 rfl; have u2 := o3.cell 2 rfl; have y0 := z3.cell 0 rfl; have y1 := z3.cell 1 rfl; have y2 := z3.cell 2 rfl)
            | (go_at_call 139; (with_reducible refine (HS _).mono ?_); rintro e w4 ⟨rfl, hx4⟩; have hB1 := hB1.trans (hx4.mono hB1.size); have o4 := o3.below hx4 hl3; have z4 := z3.below hx4 lz3; have u0 := o4.cell 0 rfl; have u1 := o4.cell 1 rfl; have u2 := o4.cell 2 rfl; have y0 := z4.cell 0 rfl; have y1 := z4.cell 1 rfl; have y2 := z4.cell 2 rfl; have f0 := z4.free 0; have f1 := z4.free 1; have f2 := z4.free 2))
          go_roundw
          case rel => exact ⟨k + 1, y, by omega, by go_num, e, ((z4.set 0 _).set 1 _).set 2 _, (((hb1.trans (hB1.mono hb1.size)).setCell (p := ⟨b3, 0, none⟩) (Nat.le_of_eq hb3) _).setCell (p := ⟨b3, 1, none⟩) (Nat.le_of_eq hb3) _).setCell (p := ⟨b3, 2, none⟩) (Nat.le_of_eq hb3) _⟩
          case measure => simp [intOf]; omega
    · obtain rfl : k = n := by omega
      have e : Hid (G = 0) := by unfold Hid; rw [hs.out, List.drop_eq_nil_of_le (by rw [Hn.out]; exact Nat.le_refl _)]; rfl
      go_wp2
      go_ret
      exact ⟨by rw [e.out]; rfl, hb⟩
end Go.Proofs.YtaodjnkjjmhecaaGreatDoor
namespace Go.Proofs.YtaodjnkjjmhecaaGreatDoor
open Go.RowKit Go.Shelf
set_option linter.unusedVariables false
theorem deadZ_ok : ∀ (L : List DotN) (z : DotN), deadZ z L = 0 → SortedD L ∧ ∀ d ∈ L, rightD d = true ∧ lessD z d = true
  | [], z, _ => ⟨List.Pairwise.nil, fun d h => absurd h List.not_mem_nil⟩
  | x :: t, z, h => by
    unfold deadZ at h
    cases hr : rightD x with
    | false => rw [hr] at h; cases h
    | true =>
      rw [hr, if_neg (by decide)] at h
      cases hz : lessD z x with
      | false => rw [hz] at h; cases h
      | true =>
        rw [hz, if_neg (by decide)] at h
        obtain ⟨h1, h2⟩ := deadZ_ok t x h
        refine ⟨List.pairwise_cons.2 ⟨fun y hy => (h2 y hy).2, h1⟩, fun y hy => ?_⟩
        rcases List.mem_cons.1 hy with rfl | hy
        · exact ⟨hr, hz⟩
        · exact ⟨(h2 y hy).1, lessD_trans hz (h2 y hy).2⟩
theorem keptZ_ok (c : List DotN) : ∀ (L : List EventN) (z : DotN), keptZ c z L = 0 → SortedE L ∧ ∀ e ∈ L, rightE e = true ∧ hasV c e.dot = true ∧ lessD z e.dot = true
  | [], z, _ => ⟨List.Pairwise.nil, fun d h => absurd h List.not_mem_nil⟩
  | x :: t, z, h => by
    unfold keptZ at h
    cases hr : rightE x with
    | false => rw [hr] at h; cases h
    | true =>
      rw [hr, if_neg (by decide)] at h
      cases hz : lessD z x.dot with
      | false => rw [hz] at h; cases h
      | true =>
        rw [hz, if_neg (by decide)] at h
        cases hh : hasV c x.dot with
        | false => rw [hh] at h; cases h
        | true =>
          rw [hh, if_neg (by decide)] at h
          obtain ⟨h1, h2⟩ := keptZ_ok c t x.dot h
          refine ⟨List.pairwise_cons.2 ⟨fun y hy => (h2 y hy).2.2, h1⟩, fun y hy => ?_⟩
          rcases List.mem_cons.1 hy with rfl | hy
          · exact ⟨hr, hh, hz⟩
          · exact ⟨(h2 y hy).1, (h2 y hy).2.1, lessD_trans hz (h2 y hy).2.2⟩
theorem hasV_le {c : List DotN} {x : DotN} (h : hasV c x = true) : x.seq ≤ getV c x.dev x.inc := by
  unfold hasV at h
  rw [Bool.and_eq_true, decide_eq_true_eq] at h
  exact h.2
theorem build_rows {v : Value} {m2 : Option Nat} {F : Nat → Prop} {C : List DotN} {P : List EvR} {E : List DotN} (ww : World) (hV : ArgV ww v m2 F C) (ak : Option Addr) (nk ck : Nat) (ad : Option Addr) (nd cd : Nat) (hK : RowOf encE 19 ww ak nk ck P) (hO : OversAt ww P) (hl : ∀ r ∈ P, lightE r.e = true) (hE : RowOf encD 3 ww ad nd cd E)
    (hKl : P.length ≤ 2048) (hEl : E.length ≤ 65536) (h1 : keptF C none (P.map (·.e)) = 0) (h2 : deadF none E = 0) (Bv Bk : Nat) (oV : ObjAt ww Bv [.slice ak nk ck]) (oK : ObjAt ww Bk [.slice ad nd cd]) :
    Calls Tryz.prog 74 #[v, .func (.func 140) #[] #[.pointer (some ⟨Bv, 0, none⟩)], .func (.func 141) #[] #[.pointer (some ⟨Bk, 0, none⟩)]] ww fun e w' => ∃ p2 B2 rs2, e = .returned (.pointer (some ⟨p2, 0, none⟩)) ∧ NewMap ww w' p2 B2 rs2 ⟨C, P.map (·.e), E⟩ ∧ Below ww.heap.size ww w' := by
  rw [keptZ_none] at h1
  rw [deadZ_none] at h2
  obtain ⟨k1, k2⟩ := keptZ_ok C _ _ h1
  obtain ⟨d1, d2⟩ := deadZ_ok _ _ h2
  have hin : ∀ x : { r : EvR // r ∈ P }, x.1.e ∈ P.map (·.e) := fun x => List.mem_map.2 ⟨x.1, x.2, rfl⟩
  refine (buildI (δ := { d : DotN // d ∈ E }) (ε := { r : EvR // r ∈ P }) (fun x => x.1) (fun x => x.1) ww hV 140 141 #[.pointer (some ⟨Bv, 0, none⟩)] #[.pointer (some ⟨Bk, 0, none⟩)]
    (fun k hk => sliceEachE0 k Bv ak nk ck P ww hk (oV.cell 0 rfl) hK) (fun k hk => sliceEachD0 k Bk ad nd cd E ww hk (oK.cell 0 rfl) hE)
    (enters_of Tryz.func140 (by kernel_rfl) rfl) (enters_of Tryz.func141 (by kernel_rfl) rfl) (fun k hk => ?_) (fun k hk => ?_) (fun xs hx => ?_) (fun x => ?_) (fun x => hO x.1 x.2) (fun ys hy => ?_)).mono ?_
  · rcases hk with rfl | ⟨hk, hp⟩
    · exact oV.lt
    · obtain ⟨x, g, off, _, e, hc⟩ := hK.at 0 hp
      rw [e] at hk
      have e1 : g = k := at_some.1 hk
      exact e1 ▸ cell_lt (hc 0 _ rfl)
  · rcases hk with rfl | ⟨hk, hp⟩
    · exact oK.lt
    · obtain ⟨x, g, off, _, e, hc⟩ := hE.at 0 hp
      rw [e] at hk
      have e1 : g = k := at_some.1 hk
      exact e1 ▸ cell_lt (hc 0 _ rfl)
  · obtain ⟨k, hk⟩ := hx
    have h3 := congrArg List.length hk
    rw [List.length_map, List.length_take] at h3
    exact ⟨by omega, fun x _ => (d2 x.1 x.2).1⟩
  · obtain ⟨q1, q2, q3⟩ := k2 _ (hin x)
    exact ⟨q1, hl x.1 x.2, hasV_le q2⟩
  · obtain ⟨k, hk⟩ := hy
    have h3 := congrArg List.length hk
    rw [List.length_map, List.length_take] at h3
    refine ⟨?_, by omega⟩
    have h4 : ys.map (fun x => x.1.e.dot) = (P.take k).map fun r => r.e.dot := by
      rw [← hk, List.map_map]
      rfl
    rw [h4]
    have h5 : ((P.map (·.e)).map (·.dot)).Nodup := sortedD_nodup (sortedE_dots k1)
    rw [List.map_map] at h5
    exact List.Nodup.sublist ((List.take_sublist k P).map _) h5
  · rintro e w' ⟨p2, B2, rs2, xs, ys, rfl, hS, hS2, hN, hb2⟩
    have hkept : ys.foldl (fun K y => insE K y.1.e) [] = P.map (·.e) := by
      refine sortedE_unique hN.real.ok.ok.kept k1 fun e => ?_
      rw [fold_mem (fun y : { r : EvR // r ∈ P } => y.1.e)]
      constructor
      · rintro (c | ⟨y, _, rfl⟩)
        · cases c
        · exact hin y
      · intro he
        obtain ⟨r, hr, rfl⟩ := List.mem_map.1 he
        rw [← hS2] at hr
        obtain ⟨y, hy, hye⟩ := List.mem_map.1 hr
        exact .inr ⟨y, hy, by rw [← hye]⟩
    have hdead : sortD (xs.map (·.1)) = E := by
      rw [show xs.map (·.1) = E from hS]
      exact sorted_unique (sortD_sorted _) d1 fun y => sortD_mem _ _
    rw [hkept, hdead] at hN
    exact ⟨p2, B2, rs2, rfl, hN, hb2⟩
set_option maxRecDepth 100000 in
set_option maxHeartbeats 4000000 in
theorem mLoadYesI (ac : Option Addr) (nc cc : Nat) (ak : Option Addr) (nk ck : Nat) (ad : Option Addr) (nd cd : Nat) (C : List DotN) (P : List EvR) (E : List DotN) (w : World) (hC : RowOf encD 3 w ac nc cc C) (hF : ∀ x ∈ C, FitD x) (hK : RowOf encE 19 w ak nk ck P) (hO : OversAt w P) (hl : ∀ r ∈ P, lightE r.e = true) (hE : RowOf encD 3 w ad nd cd E)
    (h : loadM ⟨C, P.map (·.e), E⟩ = 0) (hTb : OTb w) :
    Calls Tryz.prog 49 #[.slice ac nc cc, .slice ak nk ck, .slice ad nd cd] w fun en w' => ∃ p B rs, en = .returned (.tuple #[.pointer (some ⟨p, 0, none⟩), .int .i64 0]) ∧ NewMap w w' p B rs ⟨C, P.map (·.e), E⟩ ∧ Below w.heap.size w w' := by
  unfold loadM at h
  dsimp only at h
  have h1 : checkV C = 0 := Classical.byContradiction fun c => by
    rw [if_pos c] at h
    exact c h
  rw [if_neg (fun c => c h1)] at h
  by_cases h2 : 2048 < (P.map (·.e)).length ∨ 65536 < E.length
  · rw [if_pos h2] at h
    cases h
  rw [if_neg h2] at h
  have h3 : keptF C none (P.map (·.e)) = 0 := Classical.byContradiction fun c => by
    rw [if_pos c] at h
    exact c h
  rw [if_neg (fun c => c h3)] at h
  rw [List.length_map] at h2
  have hleK := hK.leq
  have hleE := hE.leq
  have g1 : ¬ (2048 : Int) < (nk : Int) := by omega
  have g2 : ¬ (65536 : Int) < (nd : Int) := by omega
  have HV := vOfYes ac nc cc C w hC hF h1
  have HK := fun (x : World) (v : Value) m2 F (hx : Below w.heap.size w x) (hV : ArgV x v m2 F C) => checkKeptC ak nk ck P x hV (hK.below hx) (fun r hr => (hO r hr).below hx) hl (hTb.below hx)
  have HE := fun (x : World) (hx : Below w.heap.size w x) => checkDeadC ad nd cd E x (hE.below hx)
  simp only [h3] at HK
  simp only [h] at HE
  have HB := fun (x : World) (v : Value) m2 F (hx : Below w.heap.size w x) (hV : ArgV x v m2 F C) => build_rows x hV ak nk ck ad nd cd (hK.below hx) (fun r hr => (hO r hr).below hx) hl (hE.below hx) (by omega) (by omega) h3 h
  clear hC hF hK hO hE h1 h2 h3 h hTb hl
  go_enter Tryz.func49, Tryz.ntmps49
  go_wp2_with (first
    | (go_at_call 96; (with_reducible refine HV.mono ?_); rintro e w1 ⟨pc, F, rfl, hvec, hF, hx1⟩; obtain ⟨mv, hA1⟩ := hvec.arg; have HK1 := HK _ _ _ _ hx1 hA1)
    | (go_at_call 97; (with_reducible refine HK1.mono ?_); rintro e w2 ⟨rfl, hx2⟩; have hA2 := hA1.below hx2; have hb2 := hx1.trans (hx2.mono hx1.size); have HE2 := HE _ hb2)
    | (go_at_call 98; (with_reducible refine HE2.mono ?_); rintro e w3 ⟨rfl, hx3⟩; have hA3 := hA2.below hx3; have hb3 := hb2.trans (hx3.mono hb2.size))
    | (go_at_call 99; (refine (sliceMakeE ak nk ck _).mono ?_); rintro e w4 ⟨rfl, rfl⟩)
    | (go_at_call 100; (refine (sliceMakeD ad nd cd _).mono ?_); rintro e w5 ⟨rfl, rfl⟩; obtain ⟨oV5, oK, hx5⟩ := objsE2 w3 #[.slice ak nk ck] #[.slice ad nd cd] 28 29; have hA5 := hA3.below hx5; have hb5 := hb3.trans (hx5.mono hb3.size); have HB5 := HB _ _ _ _ hb5 hA5 _ _ oV5 oK)
    | (go_at_call 74; (refine HB5.mono ?_); rintro e w6 ⟨p2, B2, rs2, rfl, hN, hx6⟩))
  go_ret2
  exact ⟨p2, B2, rs2, rfl, ⟨hN.real, fun k hk => Nat.le_trans hb5.size (hN.own k hk), fun k hk => Nat.le_trans hb5.size (hN.over k hk)⟩, hb5.trans (hx6.mono hb5.size)⟩
end Go.Proofs.YtaodjnkjjmhecaaGreatDoor
namespace Go.Proofs.YtaodjnkjjmhecaaGreatDoor
open Go.RowKit
set_option linter.unusedVariables false
theorem mContextR (p : Nat) (F R : Nat → Prop) (m : MapN) (w : World) (h : MapAt w p F R m) : Calls Tryz.prog 42 #[.pointer (some ⟨p, 0, none⟩)] w (GivesDr R m.ctx w) := (mContextA h.arg).mono fun _ _ h => own_dr h
theorem mContextC (p : Nat) (F R : Nat → Prop) (m : MapN) (w : World) (h : MapAt w p F R m) : Calls Tryz.prog 42 #[.pointer (some ⟨p, 0, none⟩)] w (GivesDs m.ctx w) := (mContextR p F R m w h).mono fun _ _ h => h.ds
theorem mEventsR (p : Nat) (F R : Nat → Prop) (m : MapN) (w : World) (h : MapAt w p F R m) : Calls Tryz.prog 43 #[.pointer (some ⟨p, 0, none⟩)] w (GivesEr R m.kept w) := (mEventsA h.arg).mono fun _ _ h => h.er
theorem mEventsC (p : Nat) (F R : Nat → Prop) (m : MapN) (w : World) (h : MapAt w p F R m) : Calls Tryz.prog 43 #[.pointer (some ⟨p, 0, none⟩)] w (GivesEs m.kept w) := (mEventsR p F R m w h).mono fun _ _ h => h.es
theorem mDeadsR (p : Nat) (F R : Nat → Prop) (m : MapN) (w : World) (h : MapAt w p F R m) (hdn : m.dead.length ≤ 100000) : Calls Tryz.prog 48 #[.pointer (some ⟨p, 0, none⟩)] w (GivesDr R m.dead w) := (mDeadsA h.arg hdn).mono fun _ _ h => own_dr h
theorem mDeadsC (p : Nat) (F R : Nat → Prop) (m : MapN) (w : World) (h : MapAt w p F R m) (hdn : m.dead.length ≤ 100000) : Calls Tryz.prog 48 #[.pointer (some ⟨p, 0, none⟩)] w (GivesDs m.dead w) := (mDeadsR p F R m w h hdn).mono fun _ _ h => h.ds
theorem mForgetC (p : Nat) (F R : Nat → Prop) (m : MapN) (d : DotN) (w : World) (h : MapAt w p F R m) (hx : FitD d) : Calls Tryz.prog 21 #[.pointer (some ⟨p, 0, none⟩), .agg #[.int .i64 d.dev, .int .i64 d.inc, .int .i64 d.seq]] w (Turns p F R none (forgetM m d).1 (.bool (forgetM m d).2) w) := by
  obtain ⟨B, rs, hR, h1, h2⟩ := h.real
  refine (mForgetI hR d hx).mono ?_
  rintro e w' ⟨rfl, rs', s⟩
  exact turns_of h h1 h2 s
theorem mBareC (p : Nat) (F R : Nat → Prop) (m : MapN) (d : DotN) (w : World) (h : MapAt w p F R m) (hx : FitD d) : Calls Tryz.prog 23 #[.pointer (some ⟨p, 0, none⟩), .agg #[.int .i64 d.dev, .int .i64 d.inc, .int .i64 d.seq]] w (Turns p F R none (bareM m d).1 (.bool (bareM m d).2) w) := by
  obtain ⟨B, rs, hR, h1, h2⟩ := h.real
  refine (mBareI hR d hx).mono ?_
  rintro e w' ⟨rfl, rs', s⟩
  exact turns_of h h1 h2 s
theorem mClearC (p : Nat) (F R : Nat → Prop) (m : MapN) (d : DotN) (w : World) (h : MapAt w p F R m) (hx : FitD d) : Calls Tryz.prog 25 #[.pointer (some ⟨p, 0, none⟩), .agg #[.int .i64 d.dev, .int .i64 d.inc, .int .i64 d.seq]] w (Turns p F R none (clearM m d).1 (.bool (clearM m d).2) w) := by
  obtain ⟨B, rs, hR, h1, h2⟩ := h.real
  refine (mClearI hR d hx).mono ?_
  rintro e w' ⟨rfl, rs', s⟩
  exact turns_of h h1 h2 s
theorem mLoadYes (ac : Option Addr) (nc cc : Nat) (ak : Option Addr) (nk ck : Nat) (ad : Option Addr) (nd cd : Nat) (m : MapR) (w : World) (hM : RowM w ac nc cc ak nk ck ad nd cd m) (hO : OversAt w m.kept) (hl : ∀ r ∈ m.kept, lightE r.e = true) (h : loadM m.plain = 0) (hTb : OTb w) (hF : ∀ x ∈ m.ctx, FitD x) :
    Calls Tryz.prog 49 #[.slice ac nc cc, .slice ak nk ck, .slice ad nd cd] w fun en w' => ∃ p F R, en = .returned (.tuple #[.pointer (some ⟨p, 0, none⟩), .int .i64 0]) ∧ MapAt w' p F R m.plain ∧ (∀ k, F k → w.heap.size ≤ k) ∧ (∀ k, R k → (At ac k ∨ At ak k ∨ At ad k) ∨ (∃ r ∈ m.kept, At (overA r) k) ∨ w.heap.size ≤ k) ∧ Below w.heap.size w w' := by
  refine (mLoadYesI ac nc cc ak nk ck ad nd cd m.ctx m.kept m.dead w hM.ctx hF hM.kept hO hl hM.dead h hTb).mono ?_
  rintro e w' ⟨p, B, rs, rfl, hN, hb⟩
  obtain ⟨F, R, h1, h2, h3⟩ := hN.mapAt
  exact ⟨p, F, R, rfl, h1, h2, fun k hk => .inr (.inr (h3 k hk)), hb⟩
theorem mWinnersC (p : Nat) (F R : Nat → Prop) (m : MapN) (w : World) (h : MapAt w p F R m) : Calls Tryz.prog 45 #[.pointer (some ⟨p, 0, none⟩)] w (GivesEs (winnersM m) w) := (mWinnersA h.arg).mono fun _ _ h => (GivesN.er (R := R) h).es
end Go.Proofs.YtaodjnkjjmhecaaGreatDoor
namespace Go.Proofs.YtaodjnkjjmhecaaGreatDoor
open Go.ChangeShapes Go.WideShapes Go.ChangeAt Go.RowKit
set_option linter.unusedVariables false
set_option maxRecDepth 100000 in
theorem step_of {H : Type} {enc : TypeId × Value → H} {w : World} {fuel : Nat} {cs : List Value} {x : DataW H × List MemPlace} (h : DataW.trod enc Tryz.prog w 0 (fun _ => true) true fuel 45 cs = some x) : ∃ s : StepR, cs = encS s ∧ OkR w s.r := by
  obtain ⟨ys, n, -, -, hlen, hyl, hf⟩ := DataW.trod_struct Tryz.underlying45 h
  have hC : Tryz.prog.cellsOf 45 = 20 := by kernel_rfl
  have c0 : Tryz.prog.cellsOf 3 = 1 := by kernel_rfl
  have c1 : Tryz.prog.cellsOf 43 = 19 := by kernel_rfl
  rw [hC] at hlen
  have g0 : DataW.trod enc Tryz.prog w 0 (fun _ => true) true n 3 ((cs.drop 0).take (Tryz.prog.cellsOf 3)) = ys[0]? := hf 0 _ rfl
  have g1 : DataW.trod enc Tryz.prog w 0 (fun _ => true) true n 43 ((cs.drop 1).take (Tryz.prog.cellsOf 43)) = ys[1]? := hf 1 _ rfl
  have hy : ys.length = 2 := hyl
  rw [List.getElem?_eq_getElem (by omega)] at g0 g1
  rw [c0] at g0
  rw [c1] at g1
  obtain ⟨v, t, rfl⟩ : ∃ v t, cs = v :: t := by
    cases cs with
    | nil => cases hlen
    | cons v t => exact ⟨v, t, rfl⟩
  rw [show ((v :: t).drop 0).take 1 = [v] from rfl] at g0
  rw [show (v :: t).drop 1 = t from rfl, List.take_of_length_le (by rw [List.length_cons] at hlen; omega)] at g1
  obtain ⟨kd, ek, -, -⟩ := DataW.trod_int Tryz.underlying3 g0
  cases ek
  obtain ⟨r, rfl, hr⟩ := evr_of g1
  exact ⟨⟨kd, r⟩, rfl, hr⟩
set_option maxRecDepth 100000 in
theorem open_stepsO {H : Type} {enc : TypeId × Value → H} {w : World} {r : Reach} {b0 : Nat} {v : Value} {d : DataW H} {p : List MemPlace} (hv : Value.okWide Tryz.prog w r b0 22 v) (h : DataW.Trod enc Tryz.prog w 0 (fun _ => true) true 22 v d p) :
    ∃ a n c, ∃ Q : List StepR, v = .slice a n c ∧ RowOf encS 20 w a n c Q ∧ ∀ x ∈ Q, OkR w x.r := by
  obtain ⟨a, n, c, rfl⟩ := okWide_slice Tryz.underlying22 hv
  obtain ⟨fuel, hf⟩ := h
  exact rows_trod encS (fun s => OkR w s.r) 20 Tryz.underlying22 (by kernel_rfl) (by decide) (fun m cs y hy => step_of hy) (show DataW.trod enc Tryz.prog w 0 (fun _ => true) true fuel 22 [.slice a n c] = some _ from hf)
end Go.Proofs.YtaodjnkjjmhecaaGreatDoor
