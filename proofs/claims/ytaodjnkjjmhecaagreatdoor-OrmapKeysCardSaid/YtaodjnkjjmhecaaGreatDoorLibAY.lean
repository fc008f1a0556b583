/- Contracts and plain words that the laws' proofs stand on. -/
import Derived.Test.YtaodjnkjjmhecaaGreatDoorShort
import Derived.Test.YtaodjnkjjmhecaaGreatDoorLibBH
namespace Go.Proofs.YtaodjnkjjmhecaaGreatDoor
open Go.RowKit
set_option linter.unusedVariables false
theorem keyM_is (m : MapN) (x : ItemL) : (keyM m x).map (·.dot) = dotsK m.kept m.dead (kOf x) := by
  unfold keyM dotsK
  rw [alive_is, List.filter_filter]
  congr 1
  refine List.filter_congr fun e _ => ?_
  rw [Bool.and_comm]
  congr 1
  rw [Bool.eq_iff_iff, decide_eq_true_eq]
  exact sameKey_iff
end Go.Proofs.YtaodjnkjjmhecaaGreatDoor
namespace Go.Proofs.YtaodjnkjjmhecaaGreatDoor
open Go.RowKit Go.Shelf
set_option linter.unusedVariables false
set_option linter.unusedSimpArgs false
set_option maxRecDepth 100000 in
set_option maxHeartbeats 2000000 in
theorem mKeyA {w : World} {v : Value} {m : MapN} (h : ArgM w v m) (x : ItemL) (hko : fitK (kOf x)) : Calls Tryz.prog 33 #[v, .agg #[.string (str x.name), .string (str x.dom), .string (str x.path)]] w (GivesN (keyM m x) w) := by
  have HO := fun ww (ha : ArgM ww v m) => mOrNewI ha
  have HG0 : ∀ (ww : World) p B rs, Real ww p B rs m → ∀ a n c L, RowOf encD 3 ww a n c L → (∀ x ∈ L, FitD x) → (∀ y ∈ L, y ∈ dotsK m.kept m.dead (kOf x)) → n ≤ 100000 → sortD L = dotsK m.kept m.dead (kOf x) → Calls Tryz.prog 83 #[.pointer (some ⟨p, 0, none⟩), .slice a n c] ww (GivesN (keyM m x) ww) := fun ww p B rs hR a n c L hL hF hin hn hs => by
    have := gatherI hR a n c L hL hF (fun y hy => by
      obtain ⟨e, he, hd, -⟩ := mem_dotsK.1 (hin y hy)
      rw [← hR.rs] at he
      obtain ⟨r, hr, rfl⟩ := List.mem_map.1 he
      exact ⟨r, hr, hd⟩) hn
    rw [hs, ← keyM_is, gather_is hR.sorted (fun e he => by
      rw [hR.rs]
      exact (List.mem_filter.1 (List.mem_filter.1 he).1).1)] at this
    exact this
  unfold GivesN at HG0 ⊢
  obtain ⟨k1, hk1⟩ : ∃ d, x.name = d := ⟨_, rfl⟩
  obtain ⟨k2, hk2⟩ : ∃ d, x.dom = d := ⟨_, rfl⟩
  obtain ⟨k3, hk3⟩ : ∃ d, x.path = d := ⟨_, rfl⟩
  have hKe : kOf x = (k1, k2, k3) := by unfold kOf; rw [hk1, hk2, hk3]
  rw [hKe] at hko HG0
  rw [hk1, hk2, hk3]
  obtain ⟨bk, hbk⟩ : ∃ bk, w.heap.size = bk := ⟨_, rfl⟩
  have o1 := ObjAt.new w #[.string (str k1), .string (str k2), .string (str k3)] 39
  have b1 := below_alloc w (.cells #[.string (str k1), .string (str k2), .string (str k3)] 39)
  have ha1 := h.below b1
  rw [hbk] at o1
  generalize hw1 : w.alloc (.cells #[.string (str k1), .string (str k2), .string (str k3)] 39) = w1 at *
  have l1 := o1.lt
  clear hk1 hk2 hk3 hKe
  go_enter Tryz.func33, Tryz.ntmps33
  go_wp2_with (go_at_call 73; (with_reducible refine (HO _ ha1).mono ?_); rintro e w2 ⟨p, B, rs, rfl, hR, hx⟩)
  have o2 := o1.below hx l1
  have l2 := o2.lt
  obtain ⟨O, hO⟩ : ∃ O, B (.of (k1, k2, k3)) = O := ⟨_, rfl⟩
  have hS2 : ∀ v, Below w2.heap.size w2 v → v.cell? ⟨p, 3, none⟩ = some (.map (B .keys)) ∧ v.cell? ⟨bk, 0, none⟩ = some (.string (str k1)) ∧ v.cell? ⟨bk, 1, none⟩ = some (.string (str k2)) ∧ v.cell? ⟨bk, 2, none⟩ = some (.string (str k3)) ∧ KeysIs v (B .keys) B := fun v hv => ⟨(hR.below hv).obj.cell 3 rfl, (o2.below hv l2).cell 0 rfl, (o2.below hv l2).cell 1 rfl, (o2.below hv l2).cell 2 rfl, (hR.below hv).keys⟩
  have HCo := fun v (hv : Below w2.heap.size w2 v) Bm (hc : v.cell? ⟨Bm, 0, none⟩ = some (.map O)) => collectS (Bm := Bm) (hO ▸ (hR.below hv).of (k1, k2, k3)) hc (dotsK_sorted hR.ok.ok.kept _ _) (fun y hy => by
    obtain ⟨e, he, hd, -⟩ := mem_dotsK.1 hy
    exact hd ▸ hR.fit he) (Nat.le_trans (dotsK_few _ _ _) (Nat.le_trans hR.few (by omega)))
  have HG := fun v (hv : Below w2.heap.size w2 v) => HG0 v p B rs (hR.below hv)
  have hb : Below w2.heap.size w2 w2.drew := (Below.refl _ _).drew
  go_wp2_with fail
  refine wp_region_held_drew (S := fun w' => w'.cell? ⟨p, 3, none⟩ = some (.map (B .keys)) ∧ w'.cell? ⟨bk, 0, none⟩ = some (.string (str k1)) ∧ w'.cell? ⟨bk, 1, none⟩ = some (.string (str k2)) ∧ w'.cell? ⟨bk, 2, none⟩ = some (.string (str k3)) ∧ KeysIs w' (B .keys) B) (by kernel_rfl) (hS2 _ hb) (fun hHeld => ?_)
  first | (refine tR (i := 0) rfl rfl ?_) | (refine tL (i := 0) (v := ?vb1) rfl ?hyb1 ?rb1; case hyb1 => (rintro w' hS; obtain ⟨hs0, hs1, hs2, hs3, hs4⟩ := hS; go_simp; try with_reducible rfl))
  try simp only [gA, gB, Act.put, gD, gE, gF]
  first | (refine tR (i := 1) rfl rfl ?_) | (refine tL (i := 1) (v := ?vb2) rfl ?hyb2 ?rb2; case hyb2 => (rintro w' hS; obtain ⟨hs0, hs1, hs2, hs3, hs4⟩ := hS; go_simp; try with_reducible rfl))
  try simp only [gA, gB, gC, Act.put, gD, gE, gF]
  first | (refine tR (i := 2) rfl rfl ?_) | (refine tL (i := 2) (v := ?vb3) rfl ?hyb3 ?rb3; case hyb3 => (rintro w' hS; obtain ⟨hs0, hs1, hs2, hs3, hs4⟩ := hS; go_simp; try with_reducible rfl))
  try simp only [gA, gB, gC, Act.put, gD, gE, gF]
  first | (refine tR (i := 3) rfl rfl ?_) | (refine tL (i := 3) (v := ?vb4) rfl ?hyb4 ?rb4; case hyb4 => (rintro w' hS; obtain ⟨hs0, hs1, hs2, hs3, hs4⟩ := hS; go_simp; try with_reducible rfl))
  try simp only [gA, gB, gC, Act.put, gD, gE, gF]
  first | (refine tR (i := 4) rfl rfl ?_) | (refine tL (i := 4) (v := ?vb5) rfl ?hyb5 ?rb5; case hyb5 => (rintro w' hS; obtain ⟨hs0, hs1, hs2, hs3, hs4⟩ := hS; go_simp; try with_reducible rfl))
  try simp only [gA, gB, gC, Act.put, gD, gE, gF]
  first | (refine tR (i := 5) rfl rfl ?_) | (refine tL (i := 5) (v := ?vb6) rfl ?hyb6 ?rb6; case hyb6 => (rintro w' hS; obtain ⟨hs0, hs1, hs2, hs3, hs4⟩ := hS; go_simp; try with_reducible rfl))
  try simp only [gA, gB, gC, Act.put, gD, gE, gF]
  refine wpAnyH_take (i := 6) (v := .map O) rfl (by kernel_rfl) (by kernel_rfl) (by kernel_rfl) (fun _ _ _ h => h) (Or.inl ⟨by rfl, fun w' hS => by obtain ⟨hs0, hs1, hs2, hs3, hs4⟩ := hS; exact exec_look (.tmp 11) (.tmp 12) 104 false rfl _ rfl _ rfl (hO ▸ (keys_look hs4 hko).1)⟩) (by assumption) ?_
  try simp only [gA, gB, gC, Act.put, gD, gE, gF]
  refine wpAnyH_ready (rs := [7]) (by kernel_rfl) (by simp) ?_
  refine AllReadyH.cons (o := _) rfl (fun K hK => ?_) AllReadyH.nil
  go_simp
  go_at_call 76; (with_reducible refine (keysMakeS O _).mono ?_); rintro e w3 ⟨rfl, rfl⟩; have b3 := below_alloc w2.drew (.cells #[.map O] 103); have hb3 : Below w2.heap.size w2 (w2.drew.alloc (.cells #[.map O] 103)) := hb.trans (b3.mono (Nat.le_refl _)); have oc : (w2.drew.alloc (.cells #[.map O] 103)).cell? ⟨w2.heap.size, 0, none⟩ = some (.map O) := (ObjAt.new w2.drew #[.map O] 103).cell 0 rfl; have HC := HCo _ hb3 w2.heap.size oc; generalize hw3 : w2.drew.alloc (.cells #[.map O] 103) = w3 at *
  try dsimp only
  refine hK.out _ _ (hS2 _ hb3) (fun hHeld => ?_)
  clear hK K
  try simp only [gA, gB, gC, Act.put, gD, gE, gF]
  refine wpAnyH_ready (rs := [8]) (by kernel_rfl) (by simp) ?_
  refine AllReadyH.cons (o := _) rfl (fun K hK => ?_) AllReadyH.nil
  go_simp
  go_at_call 84; (with_reducible refine HC.mono ?_); rintro e w4 ⟨L, k, ⟨a4, c4, rfl, hz4, hx4⟩, hk4, hs4, hf4, hi4⟩; have hb4 := hb3.trans (hx4.mono hb3.size); have HG4 := HG _ hb4 a4 k c4 L (hz4.row encD_len) hf4 hi4 (by omega) hs4
  try dsimp only
  refine hK.out _ _ (hS2 _ hb4) (fun hHeld => ?_)
  clear hK K
  try simp only [gA, gB, gC, Act.put, gD, gE, gF]
  refine wpAnyH_ready (rs := [9]) (by kernel_rfl) (by simp) ?_
  refine AllReadyH.cons (o := _) rfl (fun K hK => ?_) AllReadyH.nil
  go_simp
  go_at_call 83; (with_reducible refine HG4.mono ?_); rintro e w5 ⟨a5, n5, c5, P, rfl, hP, hz5, ho5, hn5, hx5⟩; have hb5 := hb4.trans (hx5.mono hb4.size)
  try dsimp only
  refine hK.out _ _ (hS2 _ hb5) (fun hHeld => ?_)
  clear hK K
  try simp only [gA, gB, gC, Act.put, gD, gE, gF]
  first | (refine tR (i := 10) rfl rfl ?_) | (refine tL (i := 10) (v := ?vb7) rfl ?hyb7 ?rb7; case hyb7 => (rintro w' hS; obtain ⟨hs0, hs1, hs2, hs3, hs4⟩ := hS; go_simp; try with_reducible rfl))
  try simp only [gA, gB, gC, Act.put, gD, gE, gF]
  refine wpAnyH_done (by kernel_rfl) ?_ _
  go_wp2
  go_ret
  have hbw := b1.trans (hx.mono b1.size)
  have hsz := hbw.size
  exact ⟨a5, n5, c5, P, rfl, hP, hz5.base (by have := hb4.size; omega), ho5, fun r hr k hk => by have := hn5 r hr k hk; have := hb4.size; omega, hbw.trans (hb5.mono hsz)⟩
end Go.Proofs.YtaodjnkjjmhecaaGreatDoor
namespace Go.Proofs.YtaodjnkjjmhecaaGreatDoor
open Go.RowKit
set_option linter.unusedVariables false
set_option linter.unusedSimpArgs false
set_option maxRecDepth 100000 in
set_option maxHeartbeats 4000000 in
theorem mWinnerA {w : World} {v : Value} {m : MapN} (h : ArgM w v m) (x : ItemL) (hko : fitK (kOf x)) : Calls Tryz.prog 30 #[v, .agg #[.string (str x.name), .string (str x.dom), .string (str x.path)]] w fun en w' => ∃ r : EvR, en = .returned (.tuple #[.agg (encE r).toArray, .bool (winnerM m x).isSome]) ∧ r.e = (winnerM m x).getD EventN.none ∧ RowOf encD 3 w' r.a r.e.over.length r.c r.e.over ∧ (∀ k, At r.a k → w.heap.size ≤ k) ∧ Below w.heap.size w w' := by
  have HO := fun ww (ha : ArgM ww v m) => mOrNewI ha
  have HW := fun ww p B rs (hR : Real ww p B rs m) o hG => great_is hR (x := x) (o := o) hG
  have HGR := fun (ww : World) p B rs (hR : Real ww p B rs m) (O : Option Nat) (hO : B (.of (kOf x)) = O) => greatestI hR (hO ▸ hR.of (kOf x)) (fun y hy => by
    obtain ⟨e, he, hd, -⟩ := mem_dotsK.1 hy
    rw [← hR.rs] at he
    obtain ⟨r, hr, rfl⟩ := List.mem_map.1 he
    exact ⟨r, hr, hd⟩)
  obtain ⟨k1, hk1⟩ : ∃ d, x.name = d := ⟨_, rfl⟩
  obtain ⟨k2, hk2⟩ : ∃ d, x.dom = d := ⟨_, rfl⟩
  obtain ⟨k3, hk3⟩ : ∃ d, x.path = d := ⟨_, rfl⟩
  have hKe : kOf x = (k1, k2, k3) := by unfold kOf; rw [hk1, hk2, hk3]
  rw [hKe] at hko HGR HW
  rw [hk1, hk2, hk3]
  obtain ⟨Z, hZ⟩ : ∃ Z, (#[.int .i64 0, .int .i64 0, .int .i64 0, .int .i64 0, .int .i64 0, .int .i64 0, .int .i64 0, .string ⟨#[]⟩, .string ⟨#[]⟩, .string ⟨#[]⟩, .string ⟨#[]⟩, .bool false, .bool false, .bool false, .bool false, .int .i64 0, .int .i64 0, .int .i64 0, .slice none 0 0] : Array Value) = Z := ⟨_, rfl⟩
  have zZ : Z.size = 19 := by rw [← hZ]; rfl
  have zZl : Z.toList.length = 19 := by rw [Array.length_toList]; exact zZ
  obtain ⟨o1, oR, b1⟩ := objsE2 w #[.string (str k1), .string (str k2), .string (str k3)] Z 39 43
  obtain ⟨bk, hbk⟩ : ∃ x, w.heap.size = x := ⟨_, rfl⟩
  rw [hbk] at o1 oR
  obtain ⟨bR, hbR⟩ : ∃ x, bk + 1 = x := ⟨_, rfl⟩
  rw [hbR] at oR
  have ha1 := h.below b1
  generalize hw1 : (w.alloc (.cells #[.string (str k1), .string (str k2), .string (str k3)] 39)).alloc (.cells Z 43) = w1 at *
  have l1 := o1.lt
  have lR := oR.lt
  clear hk1 hk2 hk3 hKe
  go_enter Tryz.func30, Tryz.ntmps30
  go_wp2_with (go_at_call 73; (with_reducible refine (HO _ ha1).mono ?_); rintro e w2 ⟨p, B, rs, rfl, hR, hx⟩)
  have o2 := o1.below hx l1
  have oR2 := oR.below hx lR
  have l2 := o2.lt
  have b2 := b1.trans (hx.mono b1.size)
  obtain ⟨O, hO⟩ : ∃ O, B (.of (k1, k2, k3)) = O := ⟨_, rfl⟩
  obtain ⟨is, his⟩ : ∃ is, O.isSome = is := ⟨_, rfl⟩
  have hLK : ∀ w', KeysIs w' (B .keys) B → (Instr.lookup 104 (.map (B .keys)) (.agg #[.string (str k1), .string (str k2), .string (str k3)]) true).run Tryz.prog w' = .ok (.tuple #[.map O, .bool is]) w' := fun w' hk' => by
    have := (keys_look hk' hko).2
    rw [hO, his] at this
    exact this
  have hS2 : ∀ v, Below w2.heap.size w2 v → v.cell? ⟨p, 3, none⟩ = some (.map (B .keys)) ∧ v.cell? ⟨bk, 0, none⟩ = some (.string (str k1)) ∧ v.cell? ⟨bk, 1, none⟩ = some (.string (str k2)) ∧ v.cell? ⟨bk, 2, none⟩ = some (.string (str k3)) ∧ KeysIs v (B .keys) B := fun v hv => ⟨(hR.below hv).obj.cell 3 rfl, (o2.below hv l2).cell 0 rfl, (o2.below hv l2).cell 1 rfl, (o2.below hv l2).cell 2 rfl, (hR.below hv).keys⟩
  have hb : Below w2.heap.size w2 w2.drew := (Below.refl _ _).drew
  have HG := HGR _ p B rs (hR.below hb) O hO
  have hW := HW w2 p B rs hR
  rw [hO, his] at hW
  clear HGR HW HO
  go_wp2_with fail
  refine wp_region_held_drew (S := fun w' => w'.cell? ⟨p, 3, none⟩ = some (.map (B .keys)) ∧ w'.cell? ⟨bk, 0, none⟩ = some (.string (str k1)) ∧ w'.cell? ⟨bk, 1, none⟩ = some (.string (str k2)) ∧ w'.cell? ⟨bk, 2, none⟩ = some (.string (str k3)) ∧ KeysIs w' (B .keys) B) (by kernel_rfl) (hS2 _ hb) (fun hHeld => ?_)
  first | (refine tR (i := 0) rfl rfl ?_) | (refine tL (i := 0) (v := ?vb1) rfl ?hyb1 ?rb1; case hyb1 => (rintro w' hS; obtain ⟨hs0, hs1, hs2, hs3, hs4⟩ := hS; go_simp; try with_reducible rfl))
  try simp only [gA, gB, Act.put, gD, gE, gF]
  first | (refine tR (i := 1) rfl rfl ?_) | (refine tL (i := 1) (v := ?vb2) rfl ?hyb2 ?rb2; case hyb2 => (rintro w' hS; obtain ⟨hs0, hs1, hs2, hs3, hs4⟩ := hS; go_simp; try with_reducible rfl))
  try simp only [gA, gB, gC, Act.put, gD, gE, gF]
  first | (refine tR (i := 2) rfl rfl ?_) | (refine tL (i := 2) (v := ?vb3) rfl ?hyb3 ?rb3; case hyb3 => (rintro w' hS; obtain ⟨hs0, hs1, hs2, hs3, hs4⟩ := hS; go_simp; try with_reducible rfl))
  try simp only [gA, gB, gC, Act.put, gD, gE, gF]
  first | (refine tR (i := 3) rfl rfl ?_) | (refine tL (i := 3) (v := ?vb4) rfl ?hyb4 ?rb4; case hyb4 => (rintro w' hS; obtain ⟨hs0, hs1, hs2, hs3, hs4⟩ := hS; go_simp; try with_reducible rfl))
  try simp only [gA, gB, gC, Act.put, gD, gE, gF]
  first | (refine tR (i := 4) rfl rfl ?_) | (refine tL (i := 4) (v := ?vb5) rfl ?hyb5 ?rb5; case hyb5 => (rintro w' hS; obtain ⟨hs0, hs1, hs2, hs3, hs4⟩ := hS; go_simp; try with_reducible rfl))
  try simp only [gA, gB, gC, Act.put, gD, gE, gF]
  refine wpAnyH_take (i := 5) (v := .tuple #[.map O, .bool is]) rfl (by kernel_rfl) (by kernel_rfl) (by kernel_rfl) (fun _ _ _ h => h) (Or.inl ⟨by rfl, fun w' hS => by obtain ⟨hs0, hs1, hs2, hs3, hs4⟩ := hS; exact exec_look (.tmp 14) (.tmp 15) 104 true rfl _ rfl _ rfl (hLK w' hs4)⟩) (by assumption) ?_
  try simp only [gA, gB, gC, Act.put, gD, gE, gF]
  first | (refine tR (i := 6) rfl rfl ?_) | (refine tL (i := 6) (v := ?vb6) rfl ?hyb6 ?rb6; case hyb6 => (rintro w' hS; obtain ⟨hs0, hs1, hs2, hs3, hs4⟩ := hS; go_simp; try with_reducible rfl))
  try simp only [gA, gB, gC, Act.put, gD, gE, gF]
  first | (refine tR (i := 7) rfl rfl ?_) | (refine tL (i := 7) (v := ?vb7) rfl ?hyb7 ?rb7; case hyb7 => (rintro w' hS; obtain ⟨hs0, hs1, hs2, hs3, hs4⟩ := hS; go_simp; try with_reducible rfl))
  try simp only [gA, gB, gC, Act.put, gD, gE, gF]
  first | (refine tR (i := 8) rfl rfl ?_) | (refine tL (i := 8) (v := ?vb8) rfl ?hyb8 ?rb8; case hyb8 => (rintro w' hS; obtain ⟨hs0, hs1, hs2, hs3, hs4⟩ := hS; go_simp; try with_reducible rfl))
  try simp only [gA, gB, gC, Act.put, gD, gE, gF]
  first | (refine tR (i := 9) rfl rfl ?_) | (refine tL (i := 9) (v := ?vb9) rfl ?hyb9 ?rb9; case hyb9 => (rintro w' hS; obtain ⟨hs0, hs1, hs2, hs3, hs4⟩ := hS; go_simp; try with_reducible rfl))
  try simp only [gA, gB, gC, Act.put, gD, gE, gF]
  first | (refine tR (i := 10) rfl rfl ?_) | (refine tL (i := 10) (v := ?vb10) rfl ?hyb10 ?rb10; case hyb10 => (rintro w' hS; obtain ⟨hs0, hs1, hs2, hs3, hs4⟩ := hS; go_simp; try with_reducible rfl))
  try simp only [gA, gB, gC, Act.put, gD, gE, gF]
  refine wpAnyH_done (by kernel_rfl) ?_ _
  have oR3 := oR2.below hb oR2.lt
  have b3 := b2.trans (hb.mono b2.size)
  clear hS2 hHeld hLK hO his hb o1 oR b1 ha1 o2 oR2 hx
  generalize w2.drew = w3 at *
  go_wp2_with (first
    | (go_at_call 81; (with_reducible refine HG.mono ?_); rintro e w4 ⟨og, q, hgo, rfl, hqe, hrow, hat, hx4⟩; obtain ⟨Q, hQ⟩ : ∃ Q, (encE q).toArray = Q := ⟨_, rfl⟩; rw [hQ]; have zQ : Q.size = 19 := (by rw [← hQ]; rfl); have oneQ : Q.all (·.oneCell') = true := (by rw [← hQ]; exact encO_one (some q)); have oR4 := oR3.below hx4 oR3.lt)
    | (refine wpList_storeOver rfl 43 _ _ rfl bR _ Q 19 rfl rfl oR4 (by kernel_rfl) zZl zQ oneQ ?_))
  have HLV := loadVarBig (P := Tryz.prog) 43 bR 19 Q (oR4.setRow Q) Tryz.isAgg43 Tryz.sizeOf43 zQ
  have KR := (Keeps.refl (fun k => k = bR) w4).setRow rfl Q
  have hb4 := b3.trans (hx4.mono b3.size)
  obtain ⟨hw5, hi5⟩ := hW og hgo
  exact bodyPost_ret (v := .tuple #[.agg Q, .bool is]) (results_big2 Tryz.results30 rfl rfl HLV) rfl ⟨q, by rw [hQ, hi5], by rw [hqe, hw5], hrow.keeps KR (fun k hk c => by have := hat k hk; have := oR3.lt; omega), fun k hk => Nat.le_trans b3.size (hat k hk), below_rowSet hb4 (by omega) Q⟩
end Go.Proofs.YtaodjnkjjmhecaaGreatDoor
namespace Go.Proofs.YtaodjnkjjmhecaaGreatDoor
open Go.RowKit
set_option linter.unusedVariables false
def GivesW (o : Option EventN) (w : World) (en : Ending) (w' : World) : Prop :=
  ∃ r : EvR, en = .returned (.tuple #[.agg (encE r).toArray, .bool o.isSome]) ∧ r.e = o.getD EventN.none ∧ RowOf encD 3 w' r.a r.e.over.length r.c r.e.over ∧ Below w.heap.size w w'
end Go.Proofs.YtaodjnkjjmhecaaGreatDoor
