/- Contracts and plain words that the laws' proofs stand on. -/
import Derived.Test.YtaodjnkjjmhecaaGreatDoorShort
import Derived.Test.YtaodjnkjjmhecaaGreatDoorLibAX
import Derived.Test.YtaodjnkjjmhecaaGreatDoorLibAY
import Derived.Test.YtaodjnkjjmhecaaGreatDoorLibBL
namespace Go.Proofs.YtaodjnkjjmhecaaGreatDoor
open Go.RowKit
set_option linter.unusedVariables false
theorem mRoomNil (x : Int) (w : World) : Calls Tryz.prog 47 #[.pointer none, .int .i64 x] w fun en w' => en = .returned (.bool false) ∧ Below w.heap.size w w' := by
  go_enter Tryz.func47, Tryz.ntmps47
  go_wp2
  go_ret
  exact ⟨rfl, Below.refl _ _⟩
end Go.Proofs.YtaodjnkjjmhecaaGreatDoor
namespace Go.Proofs.YtaodjnkjjmhecaaGreatDoor
open Go.RowKit
set_option linter.unusedVariables false
set_option linter.unusedSimpArgs false
theorem hasV_none (x : DotN) : hasV ([] : List DotN) x = false := by
  unfold hasV
  rw [show getV ([] : List DotN) x.dev x.inc = 0 from rfl]
  cases hr : rightD x with
  | false => rfl
  | true =>
    have := right_range hr
    rw [Bool.true_and, decide_eq_false_iff_not]
    omega
set_option maxRecDepth 100000 in
set_option maxHeartbeats 4000000 in
theorem mNilForgetA (d : DotN) (hx : FitD d) (w : World) : Calls Tryz.prog 21 #[.pointer none, .agg #[.int .i64 d.dev, .int .i64 d.inc, .int .i64 d.seq]] w fun e w' => e = .returned (.bool false) ∧ Below w.heap.size w w' := by
  have HO := fun v => mOrNewI (w := v) (v := .pointer none) (m := MapN.none) (.inl ⟨rfl, rfl⟩)
  obtain ⟨A, hA⟩ : ∃ A, (encO none).toArray = A := ⟨_, rfl⟩
  have hLK : ∀ w' mv, KeptIs w' mv [] → (Instr.lookup 102 (.map mv) (.agg #[.int .i64 d.dev, .int .i64 d.inc, .int .i64 d.seq]) true).run Tryz.prog w' = .ok (.tuple #[.agg A, .bool false]) w' := fun w' mv hk' => by
    have := (kept_look hk' hx).2
    rw [show lookR [] d = none from rfl, hA] at this
    exact this
  have zA : A.size = 19 := by rw [← hA]; exact encO_size none
  have honeA : A.all (·.oneCell') = true := by rw [← hA]; exact encO_one none
  have hi6 : A.toList[6]? = some (.int .i64 0) := by rw [← hA]; rfl
  obtain ⟨dev, inc, seq⟩ := d
  dsimp only at *
  obtain ⟨bd, hbd⟩ : ∃ bd, w.heap.size = bd := ⟨_, rfl⟩
  have o1 := ObjAt.new w #[.int .i64 dev, .int .i64 inc, .int .i64 seq] 35
  have b1 := below_alloc w (.cells #[.int .i64 dev, .int .i64 inc, .int .i64 seq] 35)
  rw [hbd] at o1
  generalize hw1 : w.alloc (.cells #[.int .i64 dev, .int .i64 inc, .int .i64 seq] 35) = w1 at *
  have l1 := o1.lt
  go_enter Tryz.func21, Tryz.ntmps21
  go_wp2_with (go_at_call 73; (with_reducible refine (HO _).mono ?_); rintro e w2 ⟨p, B, rs, rfl, hR, hx2⟩)
  obtain rfl : rs = [] := List.map_eq_nil_iff.1 hR.rs
  replace hLK := fun w' (hk' : KeptIs w' (B .kept) []) => hLK w' _ hk'
  have o2 := o1.below hx2 l1
  have l2 := o2.lt
  have b2 := b1.trans (hx2.mono b1.size)
  have hS1 : ∀ v, Below w2.heap.size w2 v → v.cell? ⟨p, 1, none⟩ = some (.map (B .kept)) ∧ v.cell? ⟨bd, 0, none⟩ = some (.int .i64 dev) ∧ v.cell? ⟨bd, 1, none⟩ = some (.int .i64 inc) ∧ v.cell? ⟨bd, 2, none⟩ = some (.int .i64 seq) ∧ KeptIs v (B .kept) [] := fun v hv => ⟨(hR.below hv).obj.cell 1 rfl, (o2.below hv l2).cell 0 rfl, (o2.below hv l2).cell 1 rfl, (o2.below hv l2).cell 2 rfl, (hR.below hv).kept⟩
  have hb1 : Below w2.heap.size w2 w2.drew := (Below.refl _ _).drew
  obtain ⟨Z, hZ⟩ : ∃ Z, (#[.int .i64 0, .int .i64 0, .int .i64 0, .int .i64 0, .int .i64 0, .int .i64 0, .int .i64 0, .string ⟨#[]⟩, .string ⟨#[]⟩, .string ⟨#[]⟩, .string ⟨#[]⟩, .bool false, .bool false, .bool false, .bool false, .int .i64 0, .int .i64 0, .int .i64 0, .slice none 0 0] : Array Value) = Z := ⟨_, rfl⟩
  have zZ : Z.size = 19 := by rw [← hZ]; rfl
  have zZl : Z.toList.length = 19 := by rw [Array.length_toList]; exact zZ
  obtain ⟨bk, hbk⟩ : ∃ bk, w2.heap.size = bk := ⟨_, rfl⟩
  have o7 : ObjAt (w2.drew.alloc (.cells Z 43)) bk Z.toList := hbk ▸ ObjAt.new w2.drew Z 43
  have c7 : Below w2.heap.size w2 (w2.drew.alloc (.cells Z 43)) := hb1.trans ((below_alloc w2.drew (.cells Z 43)).mono (Nat.le_refl _))
  have c8 := below_rowSet c7 (g := bk) (Nat.le_of_eq hbk) A
  go_wp2_with fail
  refine wp_region_held_drew (S := fun w' => w'.cell? ⟨p, 1, none⟩ = some (.map (B .kept)) ∧ w'.cell? ⟨bd, 0, none⟩ = some (.int .i64 dev) ∧ w'.cell? ⟨bd, 1, none⟩ = some (.int .i64 inc) ∧ w'.cell? ⟨bd, 2, none⟩ = some (.int .i64 seq) ∧ KeptIs w' (B .kept) []) (by kernel_rfl) (hS1 _ hb1) (fun hHeld => ?_)
  first | (refine tR (i := 0) rfl rfl ?_) | (refine tL (i := 0) (v := ?vb1) rfl ?hyb1 ?rb1; case hyb1 => (rintro w' hS; obtain ⟨hs0, hs1, hs2, hs3, hs4⟩ := hS; go_simp; try with_reducible rfl))
  try simp only [gA, gB, Act.put, gD, gE, gF]
  first | (refine tR (i := 1) rfl rfl ?_) | (refine tL (i := 1) (v := ?vb2) rfl ?hyb2 ?rb2; case hyb2 => (rintro w' hS; obtain ⟨hs0, hs1, hs2, hs3, hs4⟩ := hS; go_simp; try with_reducible rfl))
  try simp only [gA, gB, gC, Act.put, gD, gE, gF]
  first | (refine tR (i := 2) rfl rfl ?_) | (refine tL (i := 2) (v := ?vb3) rfl ?hyb3 ?rb3; case hyb3 => (rintro w' hS; obtain ⟨hs0, hs1, hs2, hs3, hs4⟩ := hS; go_simp; try with_reducible rfl))
  try simp only [gA, gB, gC, Act.put, gD, gE, gF]
  first | (refine tR (i := 3) rfl rfl ?_) | (refine tL (i := 3) (v := ?vb4) rfl ?hyb4 ?rb4; case hyb4 => (rintro w' hS; obtain ⟨hs0, hs1, hs2, hs3, hs4⟩ := hS; go_simp; try with_reducible rfl))
  try simp only [gA, gB, gC, Act.put, gD, gE, gF]
  first | (refine tR (i := 4) rfl rfl ?_) | (refine tL (i := 4) (v := ?vb5) rfl ?hyb5 ?rb5; case hyb5 => (rintro w' hS; obtain ⟨hs0, hs1, hs2, hs3, hs4⟩ := hS; go_simp; try with_reducible rfl))
  try simp only [gA, gB, gC, Act.put, gD, gE, gF]
  refine wpAnyH_take (i := 5) (v := .tuple #[.agg A, .bool false]) rfl (by kernel_rfl) (by kernel_rfl) (by kernel_rfl) (fun _ _ _ h => h) (Or.inl ⟨by rfl, fun w' hS => by obtain ⟨hs0, hs1, hs2, hs3, hs4⟩ := hS; exact exec_look (.tmp 13) (.tmp 14) 102 true rfl _ rfl _ rfl (hLK w' hs4)⟩) (by assumption) ?_
  try simp only [gA, gB, gC, Act.put, gD, gE, gF]
  first | (refine tR (i := 6) rfl rfl ?_) | (refine tL (i := 6) (v := ?vb6) rfl ?hyb6 ?rb6; case hyb6 => (rintro w' hS; obtain ⟨hs0, hs1, hs2, hs3, hs4⟩ := hS; go_simp; try with_reducible rfl))
  try simp only [gA, gB, gC, Act.put, gD, gE, gF]
  first | (refine tR (i := 7) rfl rfl ?_) | (refine tL (i := 7) (v := ?vb7) rfl ?hyb7 ?rb7; case hyb7 => (rintro w' hS; obtain ⟨hs0, hs1, hs2, hs3, hs4⟩ := hS; go_simp; try with_reducible rfl))
  try simp only [gA, gB, gC, Act.put, gD, gE, gF]
  first | (refine tR (i := 8) rfl rfl ?_) | (refine tL (i := 8) (v := ?vb8) rfl ?hyb8 ?rb8; case hyb8 => (rintro w' hS; obtain ⟨hs0, hs1, hs2, hs3, hs4⟩ := hS; go_simp; try with_reducible rfl))
  try simp only [gA, gB, gC, Act.put, gD, gE, gF]
  refine wpAnyH_ready (rs := [9]) (by kernel_rfl) (by simp) ?_
  refine AllReadyH.cons (o := _) rfl (fun K hK => ?_) AllReadyH.nil
  go_simp
  skip
  try dsimp only
  refine hK.out _ _ (hS1 _ c7) (fun hHeld => ?_)
  clear hK K
  try simp only [gA, gB, gC, Act.put, gD, gE, gF]
  refine wpAnyH_ready (rs := [10]) (by kernel_rfl) (by simp) ?_
  refine AllReadyH.cons (o := _) rfl (fun K hK => ?_) AllReadyH.nil
  refine step_storeOver (by rfl) 43 (.tmp 5) (.tmp 16) (by rfl) bk Z.toList A 19 rfl rfl o7 (by kernel_rfl) zZl zA honeA ?_
  try dsimp only
  refine hK.out _ _ (hS1 _ c8) (fun hHeld => ?_)
  clear hK K
  try simp only [gA, gB, gC, Act.put, gD, gE, gF]
  first | (refine tR (i := 11) rfl rfl ?_) | (refine tL (i := 11) (v := ?vb9) rfl ?hyb9 ?rb9; case hyb9 => (rintro w' hS; obtain ⟨hs0, hs1, hs2, hs3, hs4⟩ := hS; go_simp; try with_reducible rfl))
  try simp only [gA, gB, gC, Act.put, gD, gE, gF]
  refine wpAnyH_done (by kernel_rfl) ?_ _
  have o9 : ObjAt ((w2.alloc (.cells Z 43)).drew.setRow bk A) bk A.toList := o7.setRow A
  have c9 : Below w2.heap.size w2 ((w2.alloc (.cells Z 43)).drew.setRow bk A) := c8
  have R9 := hR.below c9
  have d9 := o2.below c9 l2
  have b9 := b2.trans (c9.mono b2.size)
  clear hS1 hb1 o7 c7 c8 c9 o1 o2 hLK hHeld hZ
  generalize ((w2.alloc (.cells Z 43)).drew.setRow bk A) = w3 at *
  have y6 := o9.cell 6 hi6
  have z0 := d9.cell 0 rfl; have z1 := d9.cell 1 rfl; have z2 := d9.cell 2 rfl
  go_wp2
  go_ret
  exact ⟨rfl, b9⟩
set_option maxRecDepth 100000 in
set_option maxHeartbeats 4000000 in
theorem mNilBareA (d : DotN) (hx : FitD d) (w : World) : Calls Tryz.prog 23 #[.pointer none, .agg #[.int .i64 d.dev, .int .i64 d.inc, .int .i64 d.seq]] w fun e w' => e = .returned (.bool false) ∧ Below w.heap.size w w' := by
  have HO := fun v => mOrNewI (w := v) (v := .pointer none) (m := MapN.none) (.inl ⟨rfl, rfl⟩)
  obtain ⟨A, hA⟩ : ∃ A, (encO none).toArray = A := ⟨_, rfl⟩
  have hLK : ∀ w' mv, KeptIs w' mv [] → (Instr.lookup 102 (.map mv) (.agg #[.int .i64 d.dev, .int .i64 d.inc, .int .i64 d.seq]) false).run Tryz.prog w' = .ok (.agg A) w' := fun w' mv hk' => by
    have := (kept_look hk' hx).1
    rw [show lookR [] d = none from rfl, hA] at this
    exact this
  have zA : A.size = 19 := by rw [← hA]; exact encO_size none
  have honeA : A.all (·.oneCell') = true := by rw [← hA]; exact encO_one none
  have hi6 : A.toList[6]? = some (.int .i64 0) := by rw [← hA]; rfl
  obtain ⟨dev, inc, seq⟩ := d
  dsimp only at *
  obtain ⟨bd, hbd⟩ : ∃ bd, w.heap.size = bd := ⟨_, rfl⟩
  have o1 := ObjAt.new w #[.int .i64 dev, .int .i64 inc, .int .i64 seq] 35
  have b1 := below_alloc w (.cells #[.int .i64 dev, .int .i64 inc, .int .i64 seq] 35)
  rw [hbd] at o1
  generalize hw1 : w.alloc (.cells #[.int .i64 dev, .int .i64 inc, .int .i64 seq] 35) = w1 at *
  have l1 := o1.lt
  go_enter Tryz.func23, Tryz.ntmps23
  go_wp2_with (go_at_call 73; (with_reducible refine (HO _).mono ?_); rintro e w2 ⟨p, B, rs, rfl, hR, hx2⟩)
  obtain rfl : rs = [] := List.map_eq_nil_iff.1 hR.rs
  replace hLK := fun w' (hk' : KeptIs w' (B .kept) []) => hLK w' _ hk'
  have o2 := o1.below hx2 l1
  have l2 := o2.lt
  have b2 := b1.trans (hx2.mono b1.size)
  have hS1 : ∀ v, Below w2.heap.size w2 v → v.cell? ⟨p, 1, none⟩ = some (.map (B .kept)) ∧ v.cell? ⟨bd, 0, none⟩ = some (.int .i64 dev) ∧ v.cell? ⟨bd, 1, none⟩ = some (.int .i64 inc) ∧ v.cell? ⟨bd, 2, none⟩ = some (.int .i64 seq) ∧ KeptIs v (B .kept) [] := fun v hv => ⟨(hR.below hv).obj.cell 1 rfl, (o2.below hv l2).cell 0 rfl, (o2.below hv l2).cell 1 rfl, (o2.below hv l2).cell 2 rfl, (hR.below hv).kept⟩
  have hb1 : Below w2.heap.size w2 w2.drew := (Below.refl _ _).drew
  obtain ⟨Z, hZ⟩ : ∃ Z, (#[.int .i64 0, .int .i64 0, .int .i64 0, .int .i64 0, .int .i64 0, .int .i64 0, .int .i64 0, .string ⟨#[]⟩, .string ⟨#[]⟩, .string ⟨#[]⟩, .string ⟨#[]⟩, .bool false, .bool false, .bool false, .bool false, .int .i64 0, .int .i64 0, .int .i64 0, .slice none 0 0] : Array Value) = Z := ⟨_, rfl⟩
  have zZ : Z.size = 19 := by rw [← hZ]; rfl
  have zZl : Z.toList.length = 19 := by rw [Array.length_toList]; exact zZ
  obtain ⟨bk, hbk⟩ : ∃ bk, w2.heap.size = bk := ⟨_, rfl⟩
  have o7 : ObjAt (w2.drew.alloc (.cells Z 43)) bk Z.toList := hbk ▸ ObjAt.new w2.drew Z 43
  have c7 : Below w2.heap.size w2 (w2.drew.alloc (.cells Z 43)) := hb1.trans ((below_alloc w2.drew (.cells Z 43)).mono (Nat.le_refl _))
  have c8 := below_rowSet c7 (g := bk) (Nat.le_of_eq hbk) A
  go_wp2_with fail
  refine wp_region_held_drew (S := fun w' => w'.cell? ⟨p, 1, none⟩ = some (.map (B .kept)) ∧ w'.cell? ⟨bd, 0, none⟩ = some (.int .i64 dev) ∧ w'.cell? ⟨bd, 1, none⟩ = some (.int .i64 inc) ∧ w'.cell? ⟨bd, 2, none⟩ = some (.int .i64 seq) ∧ KeptIs w' (B .kept) []) (by kernel_rfl) (hS1 _ hb1) (fun hHeld => ?_)
  first | (refine tR (i := 0) rfl rfl ?_) | (refine tL (i := 0) (v := ?vb10) rfl ?hyb10 ?rb10; case hyb10 => (rintro w' hS; obtain ⟨hs0, hs1, hs2, hs3, hs4⟩ := hS; go_simp; try with_reducible rfl))
  try simp only [gA, gB, Act.put, gD, gE, gF]
  first | (refine tR (i := 1) rfl rfl ?_) | (refine tL (i := 1) (v := ?vb11) rfl ?hyb11 ?rb11; case hyb11 => (rintro w' hS; obtain ⟨hs0, hs1, hs2, hs3, hs4⟩ := hS; go_simp; try with_reducible rfl))
  try simp only [gA, gB, gC, Act.put, gD, gE, gF]
  first | (refine tR (i := 2) rfl rfl ?_) | (refine tL (i := 2) (v := ?vb12) rfl ?hyb12 ?rb12; case hyb12 => (rintro w' hS; obtain ⟨hs0, hs1, hs2, hs3, hs4⟩ := hS; go_simp; try with_reducible rfl))
  try simp only [gA, gB, gC, Act.put, gD, gE, gF]
  first | (refine tR (i := 3) rfl rfl ?_) | (refine tL (i := 3) (v := ?vb13) rfl ?hyb13 ?rb13; case hyb13 => (rintro w' hS; obtain ⟨hs0, hs1, hs2, hs3, hs4⟩ := hS; go_simp; try with_reducible rfl))
  try simp only [gA, gB, gC, Act.put, gD, gE, gF]
  first | (refine tR (i := 4) rfl rfl ?_) | (refine tL (i := 4) (v := ?vb14) rfl ?hyb14 ?rb14; case hyb14 => (rintro w' hS; obtain ⟨hs0, hs1, hs2, hs3, hs4⟩ := hS; go_simp; try with_reducible rfl))
  try simp only [gA, gB, gC, Act.put, gD, gE, gF]
  refine wpAnyH_take (i := 5) (v := .agg A) rfl (by kernel_rfl) (by kernel_rfl) (by kernel_rfl) (fun _ _ _ h => h) (Or.inl ⟨by rfl, fun w' hS => by obtain ⟨hs0, hs1, hs2, hs3, hs4⟩ := hS; exact exec_look (.tmp 11) (.tmp 12) 102 false rfl _ rfl _ rfl (hLK w' hs4)⟩) (by assumption) ?_
  try simp only [gA, gB, gC, Act.put, gD, gE, gF]
  refine wpAnyH_ready (rs := [6]) (by kernel_rfl) (by simp) ?_
  refine AllReadyH.cons (o := _) rfl (fun K hK => ?_) AllReadyH.nil
  go_simp
  skip
  try dsimp only
  refine hK.out _ _ (hS1 _ c7) (fun hHeld => ?_)
  clear hK K
  try simp only [gA, gB, gC, Act.put, gD, gE, gF]
  refine wpAnyH_ready (rs := [7]) (by kernel_rfl) (by simp) ?_
  refine AllReadyH.cons (o := _) rfl (fun K hK => ?_) AllReadyH.nil
  refine step_storeOver (by rfl) 43 (.tmp 5) (.tmp 13) (by rfl) bk Z.toList A 19 rfl rfl o7 (by kernel_rfl) zZl zA honeA ?_
  try dsimp only
  refine hK.out _ _ (hS1 _ c8) (fun hHeld => ?_)
  clear hK K
  try simp only [gA, gB, gC, Act.put, gD, gE, gF]
  refine wpAnyH_done (by kernel_rfl) ?_ _
  have o9 : ObjAt ((w2.alloc (.cells Z 43)).drew.setRow bk A) bk A.toList := o7.setRow A
  have c9 : Below w2.heap.size w2 ((w2.alloc (.cells Z 43)).drew.setRow bk A) := c8
  have R9 := hR.below c9
  have d9 := o2.below c9 l2
  have b9 := b2.trans (c9.mono b2.size)
  clear hS1 hb1 o7 c7 c8 c9 o1 o2 hLK hHeld hZ
  generalize ((w2.alloc (.cells Z 43)).drew.setRow bk A) = w3 at *
  have y6 := o9.cell 6 hi6
  have z0 := d9.cell 0 rfl; have z1 := d9.cell 1 rfl; have z2 := d9.cell 2 rfl
  go_wp2
  go_ret
  exact ⟨rfl, b9⟩
set_option maxRecDepth 100000 in
set_option maxHeartbeats 4000000 in
theorem mNilClearA (d : DotN) (hx : FitD d) (w : World) : Calls Tryz.prog 25 #[.pointer none, .agg #[.int .i64 d.dev, .int .i64 d.inc, .int .i64 d.seq]] w fun e w' => e = .returned (.bool false) ∧ Below w.heap.size w w' := by
  have HO := fun v => mOrNewI (w := v) (v := .pointer none) (m := MapN.none) (.inl ⟨rfl, rfl⟩)
  obtain ⟨A, hA⟩ : ∃ A, (encO none).toArray = A := ⟨_, rfl⟩
  have hLK : ∀ w' mv, KeptIs w' mv [] → (Instr.lookup 102 (.map mv) (.agg #[.int .i64 d.dev, .int .i64 d.inc, .int .i64 d.seq]) true).run Tryz.prog w' = .ok (.tuple #[.agg A, .bool false]) w' := fun w' mv hk' => by
    have := (kept_look hk' hx).2
    rw [show lookR [] d = none from rfl, hA] at this
    exact this
  have zA : A.size = 19 := by rw [← hA]; exact encO_size none
  have honeA : A.all (·.oneCell') = true := by rw [← hA]; exact encO_one none
  have hi6 : A.toList[6]? = some (.int .i64 0) := by rw [← hA]; rfl
  obtain ⟨dev, inc, seq⟩ := d
  dsimp only at *
  obtain ⟨bd, hbd⟩ : ∃ bd, w.heap.size = bd := ⟨_, rfl⟩
  have o1 := ObjAt.new w #[.int .i64 dev, .int .i64 inc, .int .i64 seq] 35
  have b1 := below_alloc w (.cells #[.int .i64 dev, .int .i64 inc, .int .i64 seq] 35)
  rw [hbd] at o1
  generalize hw1 : w.alloc (.cells #[.int .i64 dev, .int .i64 inc, .int .i64 seq] 35) = w1 at *
  have l1 := o1.lt
  go_enter Tryz.func25, Tryz.ntmps25
  go_wp2_with (go_at_call 73; (with_reducible refine (HO _).mono ?_); rintro e w2 ⟨p, B, rs, rfl, hR, hx2⟩)
  obtain rfl : rs = [] := List.map_eq_nil_iff.1 hR.rs
  replace hLK := fun w' (hk' : KeptIs w' (B .kept) []) => hLK w' _ hk'
  have o2 := o1.below hx2 l1
  have l2 := o2.lt
  have b2 := b1.trans (hx2.mono b1.size)
  have hS1 : ∀ v, Below w2.heap.size w2 v → v.cell? ⟨p, 1, none⟩ = some (.map (B .kept)) ∧ v.cell? ⟨bd, 0, none⟩ = some (.int .i64 dev) ∧ v.cell? ⟨bd, 1, none⟩ = some (.int .i64 inc) ∧ v.cell? ⟨bd, 2, none⟩ = some (.int .i64 seq) ∧ KeptIs v (B .kept) [] := fun v hv => ⟨(hR.below hv).obj.cell 1 rfl, (o2.below hv l2).cell 0 rfl, (o2.below hv l2).cell 1 rfl, (o2.below hv l2).cell 2 rfl, (hR.below hv).kept⟩
  have hb1 : Below w2.heap.size w2 w2.drew := (Below.refl _ _).drew
  obtain ⟨Z, hZ⟩ : ∃ Z, (#[.int .i64 0, .int .i64 0, .int .i64 0, .int .i64 0, .int .i64 0, .int .i64 0, .int .i64 0, .string ⟨#[]⟩, .string ⟨#[]⟩, .string ⟨#[]⟩, .string ⟨#[]⟩, .bool false, .bool false, .bool false, .bool false, .int .i64 0, .int .i64 0, .int .i64 0, .slice none 0 0] : Array Value) = Z := ⟨_, rfl⟩
  have zZ : Z.size = 19 := by rw [← hZ]; rfl
  have zZl : Z.toList.length = 19 := by rw [Array.length_toList]; exact zZ
  obtain ⟨bk, hbk⟩ : ∃ bk, w2.heap.size = bk := ⟨_, rfl⟩
  have o7 : ObjAt (w2.drew.alloc (.cells Z 43)) bk Z.toList := hbk ▸ ObjAt.new w2.drew Z 43
  have c7 : Below w2.heap.size w2 (w2.drew.alloc (.cells Z 43)) := hb1.trans ((below_alloc w2.drew (.cells Z 43)).mono (Nat.le_refl _))
  have c8 := below_rowSet c7 (g := bk) (Nat.le_of_eq hbk) A
  go_wp2_with fail
  refine wp_region_held_drew (S := fun w' => w'.cell? ⟨p, 1, none⟩ = some (.map (B .kept)) ∧ w'.cell? ⟨bd, 0, none⟩ = some (.int .i64 dev) ∧ w'.cell? ⟨bd, 1, none⟩ = some (.int .i64 inc) ∧ w'.cell? ⟨bd, 2, none⟩ = some (.int .i64 seq) ∧ KeptIs w' (B .kept) []) (by kernel_rfl) (hS1 _ hb1) (fun hHeld => ?_)
  first | (refine tR (i := 0) rfl rfl ?_) | (refine tL (i := 0) (v := ?vb15) rfl ?hyb15 ?rb15; case hyb15 => (rintro w' hS; obtain ⟨hs0, hs1, hs2, hs3, hs4⟩ := hS; go_simp; try with_reducible rfl))
  try simp only [gA, gB, Act.put, gD, gE, gF]
  first | (refine tR (i := 1) rfl rfl ?_) | (refine tL (i := 1) (v := ?vb16) rfl ?hyb16 ?rb16; case hyb16 => (rintro w' hS; obtain ⟨hs0, hs1, hs2, hs3, hs4⟩ := hS; go_simp; try with_reducible rfl))
  try simp only [gA, gB, gC, Act.put, gD, gE, gF]
  first | (refine tR (i := 2) rfl rfl ?_) | (refine tL (i := 2) (v := ?vb17) rfl ?hyb17 ?rb17; case hyb17 => (rintro w' hS; obtain ⟨hs0, hs1, hs2, hs3, hs4⟩ := hS; go_simp; try with_reducible rfl))
  try simp only [gA, gB, gC, Act.put, gD, gE, gF]
  first | (refine tR (i := 3) rfl rfl ?_) | (refine tL (i := 3) (v := ?vb18) rfl ?hyb18 ?rb18; case hyb18 => (rintro w' hS; obtain ⟨hs0, hs1, hs2, hs3, hs4⟩ := hS; go_simp; try with_reducible rfl))
  try simp only [gA, gB, gC, Act.put, gD, gE, gF]
  first | (refine tR (i := 4) rfl rfl ?_) | (refine tL (i := 4) (v := ?vb19) rfl ?hyb19 ?rb19; case hyb19 => (rintro w' hS; obtain ⟨hs0, hs1, hs2, hs3, hs4⟩ := hS; go_simp; try with_reducible rfl))
  try simp only [gA, gB, gC, Act.put, gD, gE, gF]
  refine wpAnyH_take (i := 5) (v := .tuple #[.agg A, .bool false]) rfl (by kernel_rfl) (by kernel_rfl) (by kernel_rfl) (fun _ _ _ h => h) (Or.inl ⟨by rfl, fun w' hS => by obtain ⟨hs0, hs1, hs2, hs3, hs4⟩ := hS; exact exec_look (.tmp 13) (.tmp 14) 102 true rfl _ rfl _ rfl (hLK w' hs4)⟩) (by assumption) ?_
  try simp only [gA, gB, gC, Act.put, gD, gE, gF]
  first | (refine tR (i := 6) rfl rfl ?_) | (refine tL (i := 6) (v := ?vb20) rfl ?hyb20 ?rb20; case hyb20 => (rintro w' hS; obtain ⟨hs0, hs1, hs2, hs3, hs4⟩ := hS; go_simp; try with_reducible rfl))
  try simp only [gA, gB, gC, Act.put, gD, gE, gF]
  first | (refine tR (i := 7) rfl rfl ?_) | (refine tL (i := 7) (v := ?vb21) rfl ?hyb21 ?rb21; case hyb21 => (rintro w' hS; obtain ⟨hs0, hs1, hs2, hs3, hs4⟩ := hS; go_simp; try with_reducible rfl))
  try simp only [gA, gB, gC, Act.put, gD, gE, gF]
  first | (refine tR (i := 8) rfl rfl ?_) | (refine tL (i := 8) (v := ?vb22) rfl ?hyb22 ?rb22; case hyb22 => (rintro w' hS; obtain ⟨hs0, hs1, hs2, hs3, hs4⟩ := hS; go_simp; try with_reducible rfl))
  try simp only [gA, gB, gC, Act.put, gD, gE, gF]
  refine wpAnyH_ready (rs := [9]) (by kernel_rfl) (by simp) ?_
  refine AllReadyH.cons (o := _) rfl (fun K hK => ?_) AllReadyH.nil
  go_simp
  skip
  try dsimp only
  refine hK.out _ _ (hS1 _ c7) (fun hHeld => ?_)
  clear hK K
  try simp only [gA, gB, gC, Act.put, gD, gE, gF]
  refine wpAnyH_ready (rs := [10]) (by kernel_rfl) (by simp) ?_
  refine AllReadyH.cons (o := _) rfl (fun K hK => ?_) AllReadyH.nil
  refine step_storeOver (by rfl) 43 (.tmp 5) (.tmp 16) (by rfl) bk Z.toList A 19 rfl rfl o7 (by kernel_rfl) zZl zA honeA ?_
  try dsimp only
  refine hK.out _ _ (hS1 _ c8) (fun hHeld => ?_)
  clear hK K
  try simp only [gA, gB, gC, Act.put, gD, gE, gF]
  first | (refine tR (i := 11) rfl rfl ?_) | (refine tL (i := 11) (v := ?vb23) rfl ?hyb23 ?rb23; case hyb23 => (rintro w' hS; obtain ⟨hs0, hs1, hs2, hs3, hs4⟩ := hS; go_simp; try with_reducible rfl))
  try simp only [gA, gB, gC, Act.put, gD, gE, gF]
  refine wpAnyH_done (by kernel_rfl) ?_ _
  have o9 : ObjAt ((w2.alloc (.cells Z 43)).drew.setRow bk A) bk A.toList := o7.setRow A
  have c9 : Below w2.heap.size w2 ((w2.alloc (.cells Z 43)).drew.setRow bk A) := c8
  have R9 := hR.below c9
  have d9 := o2.below c9 l2
  have b9 := b2.trans (c9.mono b2.size)
  clear hS1 hb1 o7 c7 c8 c9 o1 o2 hLK hHeld hZ
  generalize ((w2.alloc (.cells Z 43)).drew.setRow bk A) = w3 at *
  have y6 := o9.cell 6 hi6
  have z0 := d9.cell 0 rfl; have z1 := d9.cell 1 rfl; have z2 := d9.cell 2 rfl
  have HH9 := mHasA R9.arg ⟨dev, inc, seq⟩ hx
  rw [show hasV MapN.none.ctx ⟨dev, inc, seq⟩ = false from hasV_none _] at HH9
  go_wp2_with (go_at_call 36; (with_reducible refine HH9.mono ?_); rintro e w4 ⟨rfl, hx4⟩)
  go_ret
  exact ⟨rfl, b9.trans (hx4.mono b9.size)⟩
set_option maxRecDepth 100000 in
theorem mNilCopyA (w : World) : Calls Tryz.prog 26 #[.pointer none] w fun e w' => e = .returned (.pointer none) ∧ w' = w := by
  go_enter Tryz.func26, Tryz.ntmps26
  go_wp2
  go_ret
  exact ⟨rfl, rfl⟩
set_option maxRecDepth 100000 in
set_option maxHeartbeats 2000000 in
theorem mNilApplyA (A : Array Value) (w : World) : Calls Tryz.prog 19 #[.pointer none, .agg A] w fun e w' => e = .returned (.tuple #[.bool false, .int .i64 17]) ∧ Below w.heap.size w w' := by
  have b1 := below_alloc w (.cells A 43)
  go_enter Tryz.func19, Tryz.ntmps19
  go_wp2
  go_ret2
  exact ⟨rfl, b1⟩
end Go.Proofs.YtaodjnkjjmhecaaGreatDoor
namespace Go.Proofs.YtaodjnkjjmhecaaGreatDoor
open Go.RowKit
set_option linter.unusedVariables false
theorem arg_nil (w : World) : ArgM w (.pointer none) MapN.none := .inl ⟨rfl, rfl⟩
theorem mNilApply (r : EvR) (A : Array Value) (hA : (encE r).toArray = A) (w : World) (hE : RowOf encD 3 w r.a r.e.over.length r.c r.e.over) (hl : lightE r.e = true) : Calls Tryz.prog 19 #[.pointer none, .agg A] w fun en w' => en = .returned (.tuple #[.bool false, .int .i64 17]) ∧ Below w.heap.size w w' := mNilApplyA A w
theorem mNilContext (w : World) : Calls Tryz.prog 42 #[.pointer none] w (GivesDs [] w) := (mContextA (arg_nil w)).mono fun _ _ h => (own_dr (R := fun _ => False) (L := []) h).ds
theorem mNilEvents (w : World) : Calls Tryz.prog 43 #[.pointer none] w (GivesEs [] w) := (mEventsA (arg_nil w)).mono fun _ _ h => (GivesN.er (R := fun _ => False) (L := []) h).es
theorem mNilAlive (w : World) : Calls Tryz.prog 44 #[.pointer none] w (GivesEs [] w) := (mAliveA (arg_nil w)).mono fun _ _ h => (GivesN.er (R := fun _ => False) (L := []) h).es
theorem mNilDeads (w : World) : Calls Tryz.prog 48 #[.pointer none] w (GivesDs [] w) := (mDeadsA (arg_nil w) (Nat.zero_le _)).mono fun _ _ h => (own_dr (R := fun _ => False) (L := []) h).ds
theorem mNilKey (x : ItemL) (w : World) (hk : fitK (kOf x)) : Calls Tryz.prog 33 #[.pointer none, .agg #[.string (str x.name), .string (str x.dom), .string (str x.path)]] w (GivesEs [] w) := (mKeyA (arg_nil w) x hk).mono fun _ _ h => (GivesN.er (R := fun _ => False) (L := []) h).es
theorem mNilWinner (x : ItemL) (w : World) (hk : fitK (kOf x)) : Calls Tryz.prog 30 #[.pointer none, .agg #[.string (str x.name), .string (str x.dom), .string (str x.path)]] w (GivesW none w) := (mWinnerA (arg_nil w) x hk).mono fun _ _ ⟨r, h1, h2, h3, _, h5⟩ => ⟨r, h1, h2, h3, h5⟩
theorem mNilLen (w : World) : Calls Tryz.prog 46 #[.pointer none] w fun en w' => en = .returned (.int .i64 0) ∧ Below w.heap.size w w' := mLenA (arg_nil w)
theorem mNilRoom (w : World) : Calls Tryz.prog 47 #[.pointer none, .int .i64 0] w fun en w' => en = .returned (.bool false) ∧ Below w.heap.size w w' := mRoomNil 0 w
theorem mNilDead (d : DotN) (w : World) (hx : FitD d) : Calls Tryz.prog 38 #[.pointer none, .agg #[.int .i64 d.dev, .int .i64 d.inc, .int .i64 d.seq]] w fun en w' => en = .returned (.bool false) ∧ Below w.heap.size w w' := mDeadA (arg_nil w) d hx
theorem mNilHas (d : DotN) (w : World) (hx : FitD d) : Calls Tryz.prog 36 #[.pointer none, .agg #[.int .i64 d.dev, .int .i64 d.inc, .int .i64 d.seq]] w fun en w' => en = .returned (.bool false) ∧ Below w.heap.size w w' := hasV_none d ▸ mHasA (arg_nil w) d hx
theorem mNilForget (d : DotN) (w : World) (hx : FitD d) : Calls Tryz.prog 21 #[.pointer none, .agg #[.int .i64 d.dev, .int .i64 d.inc, .int .i64 d.seq]] w fun en w' => en = .returned (.bool false) ∧ Below w.heap.size w w' := mNilForgetA d hx w
theorem mNilBare (d : DotN) (w : World) (hx : FitD d) : Calls Tryz.prog 23 #[.pointer none, .agg #[.int .i64 d.dev, .int .i64 d.inc, .int .i64 d.seq]] w fun en w' => en = .returned (.bool false) ∧ Below w.heap.size w w' := mNilBareA d hx w
theorem mNilClear (d : DotN) (w : World) (hx : FitD d) : Calls Tryz.prog 25 #[.pointer none, .agg #[.int .i64 d.dev, .int .i64 d.inc, .int .i64 d.seq]] w fun en w' => en = .returned (.bool false) ∧ Below w.heap.size w w' := mNilClearA d hx w
theorem mNilCopy (w : World) : Calls Tryz.prog 26 #[.pointer none] w fun en w' => en = .returned (.pointer none) ∧ Below w.heap.size w w' := (mNilCopyA w).mono fun _ _ ⟨h1, h2⟩ => ⟨h1, h2 ▸ Below.refl _ _⟩
theorem mNilWinners (w : World) : Calls Tryz.prog 45 #[.pointer none] w (GivesEs [] w) := (mWinnersA (arg_nil w)).mono fun _ _ h => (GivesN.er (R := fun _ => False) (L := []) h).es
end Go.Proofs.YtaodjnkjjmhecaaGreatDoor
namespace Go.Proofs.YtaodjnkjjmhecaaGreatDoor
open Go.ChangeShapes Go.WideShapes Go.ChangeAt Go.RowKit
set_option linter.unusedVariables false
set_option maxRecDepth 100000 in
theorem open_eventXF {H : Type} {enc : TypeId × Value → H} {w : World} {r : Reach} {b0 : Nat} {v : Value} {d : DataW H} {p : List MemPlace} (hv : Value.okWide Tryz.prog w r b0 43 v) (h : DataW.Trod enc Tryz.prog w 0 (fun _ => true) true 43 v d p) :
    ∃ (e : EventN) (a : Option Addr) (n c : Nat), v = .agg #[.int .i64 e.dot.dev, .int .i64 e.dot.inc, .int .i64 e.dot.seq, .int .i64 e.stamp.wall, .int .i64 e.stamp.count, .int .i64 e.stamp.dev, .int .i64 e.kind, .string (str e.item.name), .string (str e.item.dom), .string (str e.item.path), .string (str e.item.val), .bool e.item.host, .bool e.item.sec, .bool e.item.http, .bool e.item.pers, .int .i64 e.item.exp, .int .i64 e.item.made, .int .i64 e.item.used, .slice a n c] ∧ RowOf encD 3 w a n c e.over ∧ e.item.name.length ≤ maxLen ∧ e.item.dom.length ≤ maxLen ∧ e.item.path.length ≤ maxLen ∧ e.item.val.length ≤ maxLen ∧ FitD e.dot := by
  obtain ⟨cs, rfl, -⟩ := okWide_struct Tryz.underlying43 hv
  obtain ⟨fuel, hf⟩ := h
  obtain ⟨e, a, n, c, h1, h2, hF, -, h3, h4, h5, h6⟩ := event_of hf
  refine ⟨e, a, n, c, ?_, h2, h3, h4, h5, h6, hF⟩
  have : cs = #[.int .i64 e.dot.dev, .int .i64 e.dot.inc, .int .i64 e.dot.seq, .int .i64 e.stamp.wall, .int .i64 e.stamp.count, .int .i64 e.stamp.dev, .int .i64 e.kind, .string (str e.item.name), .string (str e.item.dom), .string (str e.item.path), .string (str e.item.val), .bool e.item.host, .bool e.item.sec, .bool e.item.http, .bool e.item.pers, .int .i64 e.item.exp, .int .i64 e.item.made, .int .i64 e.item.used, .slice a n c] := Array.toList_inj.mp (by simpa [Value.cells] using h1)
  rw [this]
end Go.Proofs.YtaodjnkjjmhecaaGreatDoor
