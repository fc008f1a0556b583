/- Contracts and plain words that the laws' proofs stand on. -/
import Derived.Test.YtaodjnkjjmhecaaGreatDoorShort
import Derived.Test.YtaodjnkjjmhecaaGreatDoorLibAL
import Derived.Test.YtaodjnkjjmhecaaGreatDoorOrRef11
namespace Go.Proofs.YtaodjnkjjmhecaaGreatDoor
open Go.RowKit
set_option linter.unusedVariables false
set_option linter.unusedSimpArgs false
theorem meet7 {B : World → Value → Value → Value → Value → Value → Value → Prop} {F : World → Value → Value → Value → Value → Value → Value → Prop} {G : Prop} (main : (∀ u a b c d e f, F u a b c d e f → B u a b c d e f) → G) (fin : ∀ u a b c d e f, F u a b c d e f → B u a b c d e f) : G := main fin
set_option maxHeartbeats 8000000 in
set_option maxRecDepth 100000 in
theorem refApplyYes (ac : Option Addr) (nc cc : Nat) (ak : Option Addr) (nk ck : Nat) (ad : Option Addr) (nd cd : Nat) (m : MapR) (r : EvR) (A : Array Value) (hA : (encE r).toArray = A) (w : World) (hM : RowM w ac nc cc ak nk ck ad nd cd m) (hOk : OkV m.ctx) (hE : RowOf encD 3 w r.a r.e.over.length r.c r.e.over) (hT : r.e.item.name.length ≤ 100000 ∧ r.e.item.dom.length ≤ 100000 ∧ r.e.item.path.length ≤ 100000 ∧ r.e.item.val.length ≤ 100000) (hyes : (applyR m r).2.1 = true) (hnc : nc ≤ 1000000) (hnd : nd ≤ 90000) (hno : r.e.over.length ≤ 1000) :
    Calls Tryz.prog 18 #[.agg #[.slice ac nc cc, .slice ak nk ck, .slice ad nd cd], .agg A] w (GivesM3 ac ak ad (applyR m r).1 (applyR m r).2.1 (applyR m r).2.2 w) := by
  have hyes0 := hyes
  unfold applyR at hyes
  cases T1 : rightE r.e with
  | false =>
    rw [T1, if_pos rfl] at hyes
    cases hyes
  | true =>
  cases T2 : hasV m.ctx r.e.dot with
  | true =>
    rw [T1, T2, if_neg (by decide), if_pos rfl] at hyes
    cases hyes
  | false =>
  by_cases hs : getV m.ctx r.e.dot.dev r.e.dot.inc + 1 = r.e.dot.seq
  case neg =>
    rw [T1, T2, if_neg (by decide), if_neg (by decide), if_pos hs] at hyes
    cases hyes
  by_cases hf : 2048 ≤ m.kept.length
  case pos =>
    rw [T1, T2, if_neg (by decide), if_neg (by decide), if_neg (fun c => c hs), if_pos hf] at hyes
    cases hyes
  have hap : applyR m r = (⟨setV m.ctx r.e.dot, insR m.kept r, sortD (m.dead ++ r.e.over)⟩, true, 0) := by
    unfold applyR
    rw [T1, T2, if_neg (by decide), if_neg (by decide), if_neg (fun c => c hs), if_neg hf]
  rw [hap]
  clear hyes hyes0 hap
  obtain ⟨j0, hj, jz0, jz1, jz2⟩ := info_parts infoDot
  obtain ⟨o1, a1, r1, b1⟩ := objs3m w #[.slice ac nc cc, .slice ak nk ck, .slice ad nd cd] A #[.slice none 0 0, .slice none 0 0, .slice none 0 0] 31 43 31
  have hlt1 := o1.lt; have hlt2 := a1.lt; have hlt3 := r1.lt
  have zA : A.size = 19 := by rw [← hA]; rfl
  have lA : A.toList = encE r := by rw [← hA]
  generalize hw1 : ((w.alloc (.cells #[.slice ac nc cc, .slice ak nk ck, .slice ad nd cd] 31)).alloc (.cells A 43)).alloc (.cells #[.slice none 0 0, .slice none 0 0, .slice none 0 0] 31) = w1 at *
  have c1 := a1
  rw [lA] at c1
  have m0 := o1.cell 0 rfl; have m1 := o1.cell 1 rfl; have m2 := o1.cell 2 rfl; have y0 := r1.cell 0 rfl; have y1 := r1.cell 1 rfl; have y2 := r1.cell 2 rfl; have f0 := r1.free 0; have f1 := r1.free 1; have f2 := r1.free 2; have v0 := c1.cell 0 rfl; have v1 := c1.cell 1 rfl; have v2 := c1.cell 2 rfl; have v18 := c1.cell 18 rfl
  have hMw := fun v (hv : Below w.heap.size w v) => hM.below hv
  have hM1 := fun v (hv : Below w1.heap.size w1 v) => hM.below (b1.trans (hv.mono b1.size))
  have hov := fun v (hv : Below w1.heap.size w1 v) => hE.below (b1.trans (hv.mono b1.size))
  have hX1 : Below w1.heap.size w1 w1 := Below.refl _ _
  have HR : ∀ v, Below w1.heap.size w1 v → Calls Tryz.prog 62 #[.agg A] v fun en w' => en = .returned (.bool (rightE r.e)) ∧ Below v.heap.size v w' := fun v hv => by
    rw [← hA]
    exact refERightC r.e r.a r.e.over.length r.c v (hov v hv) (fun v => refRightXC _ _ _ _ _ _ _ _ _ _ _ v hT.1 hT.2.1 hT.2.2.1 hT.2.2.2)
  have HV := fun v (hv : Below w1.heap.size w1 v) => refHasVC ac nc cc m.ctx r.e.dot v (hM1 v hv).ctx
  have HG := fun v (hv : Below w1.heap.size w1 v) => refGetVC ac nc cc m.ctx r.e.dot v (hM1 v hv).ctx
  have hg := getV_range hOk r.e.dot.dev r.e.dot.inc
  have qg : IntKind.i64.wrap (getV m.ctx r.e.dot.dev r.e.dot.inc + 1) = getV m.ctx r.e.dot.dev r.e.dot.inc + 1 := by rw [IntKind.wrap_i64]; omega
  have hkl := hM.kept.leq
  rw [T1] at HR
  rw [T2] at HV
  have t3 : ((getV m.ctx r.e.dot.dev r.e.dot.inc + 1) != r.e.dot.seq) = false := by simp [hs]
  have t4 : decide ((2048 : Int) ≤ (nk : Int)) = false := decide_eq_false (by omega)
  have t5 : ¬ (2048 : Int) ≤ (nk : Int) := by omega
  have hdl := hM.dead.leq
  obtain ⟨no, hnoe⟩ : ∃ no, r.e.over.length = no := ⟨_, rfl⟩
  have HS := fun v (hv : Below w1.heap.size w1 v) => refSetVC ac nc cc m.ctx r.e.dot v (hM1 v hv).ctx hnc
  have HP := fun v (hv : Below w1.heap.size w1 v) => refPutEC ak nk ck m.kept r A hA v (hM1 v hv).kept (by omega)
  obtain ⟨SD, hSD⟩ : ∃ SD, sortD (m.dead ++ r.e.over) = SD := ⟨_, rfl⟩
  obtain ⟨nsd, hnsd⟩ : ∃ n, SD.length = n := ⟨_, rfl⟩
  have HSO : ∀ (a : Option Addr) (c : Nat) (v : World), RowOf encD 3 v a (nd + no) c (([] ++ m.dead) ++ r.e.over) → Calls Tryz.prog 66 #[.slice a (nd + no) c] v (GivesZ encD 3 35 SD nsd v) := fun a c v hL => by
    have h := refSortDC a (nd + no) c _ v hL (by omega)
    rw [List.nil_append, hSD, hnsd] at h
    exact h
  rw [hSD]
  clear hSD hnsd
  rw [hnoe] at hov hno
  generalize setV m.ctx r.e.dot = Vn at *
  generalize insR m.kept r = Kn at *
  have HSX : ∀ v, Below w1.heap.size w1 v → v.cell? ⟨w.heap.size, 0, none⟩ = some (.slice ac nc cc) ∧ v.cell? ⟨w.heap.size, 1, none⟩ = some (.slice ak nk ck) ∧ v.cell? ⟨w.heap.size, 2, none⟩ = some (.slice ad nd cd) ∧ ObjAt v (w.heap.size + 1) A.toList := fun v hv => ⟨(o1.below hv hlt1).cell 0 rfl, (o1.below hv hlt1).cell 1 rfl, (o1.below hv hlt1).cell 2 rfl, a1.below hv hlt2⟩
  have HS9 : ∀ v, Below w1.heap.size w1 v → ∀ x0 x1 x2 : Value, (((v.setCell ⟨w.heap.size + 1 + 1, 0, none⟩ (x0)).setCell ⟨w.heap.size + 1 + 1, 1, none⟩ (x1)).setCell ⟨w.heap.size + 1 + 1, 2, none⟩ (x2)).cell? ⟨w.heap.size, 0, none⟩ = some (.slice ac nc cc) ∧ (((v.setCell ⟨w.heap.size + 1 + 1, 0, none⟩ (x0)).setCell ⟨w.heap.size + 1 + 1, 1, none⟩ (x1)).setCell ⟨w.heap.size + 1 + 1, 2, none⟩ (x2)).cell? ⟨w.heap.size, 1, none⟩ = some (.slice ak nk ck) ∧ (((v.setCell ⟨w.heap.size + 1 + 1, 0, none⟩ (x0)).setCell ⟨w.heap.size + 1 + 1, 1, none⟩ (x1)).setCell ⟨w.heap.size + 1 + 1, 2, none⟩ (x2)).cell? ⟨w.heap.size, 2, none⟩ = some (.slice ad nd cd) ∧ ObjAt (((v.setCell ⟨w.heap.size + 1 + 1, 0, none⟩ (x0)).setCell ⟨w.heap.size + 1 + 1, 1, none⟩ (x1)).setCell ⟨w.heap.size + 1 + 1, 2, none⟩ (x2)) (w.heap.size + 1) A.toList := fun v hv x0 x1 x2 => by
    have on := (((o1.below hv hlt1).other (p := ⟨w.heap.size + 1 + 1, 0, none⟩) (by show w.heap.size + 1 + 1 ≠ w.heap.size; omega) x0).other (p := ⟨w.heap.size + 1 + 1, 1, none⟩) (by show w.heap.size + 1 + 1 ≠ w.heap.size; omega) x1).other (p := ⟨w.heap.size + 1 + 1, 2, none⟩) (by show w.heap.size + 1 + 1 ≠ w.heap.size; omega) x2
    have an := (((a1.below hv hlt2).other (p := ⟨w.heap.size + 1 + 1, 0, none⟩) (by show w.heap.size + 1 + 1 ≠ w.heap.size + 1; omega) x0).other (p := ⟨w.heap.size + 1 + 1, 1, none⟩) (by show w.heap.size + 1 + 1 ≠ w.heap.size + 1; omega) x1).other (p := ⟨w.heap.size + 1 + 1, 2, none⟩) (by show w.heap.size + 1 + 1 ≠ w.heap.size + 1; omega) x2
    exact ⟨on.cell 0 rfl, on.cell 1 rfl, on.cell 2 rfl, an⟩
  have HFIN : ∀ (v : World), Below w1.heap.size w1 v → ∀ (aS : Option Addr) (nS cS : Nat) (aP : Option Addr) (nP cP : Nat) (aT : Option Addr) (nT cT : Nat), RowOf encD 3 v aS nS cS Vn → RowOf encE 19 v aP nP cP Kn → RowOf encD 3 v aT nT cT SD → (∀ k, At aS k → w1.heap.size ≤ k ∧ k < v.heap.size) → (∀ k, At aP k → w1.heap.size ≤ k ∧ k < v.heap.size) → (∀ k, At aT k → w1.heap.size ≤ k ∧ k < v.heap.size) →
      GivesM3 ac ak ad ⟨Vn, Kn, SD⟩ true 0 w (.returned (.tuple #[.agg #[.slice aS nS cS, .slice aP nP cP, .slice aT nT cT], .bool true, .int .i64 0])) (((v.setCell ⟨w.heap.size + 1 + 1, 0, none⟩ (.slice aS nS cS)).setCell ⟨w.heap.size + 1 + 1, 1, none⟩ (.slice aP nP cP)).setCell ⟨w.heap.size + 1 + 1, 2, none⟩ (.slice aT nT cT)) := fun v hv aS nS cS aP nP cP aT nT cT hS hP hT2 g1 g2 g3 => by
    have h1 : ∀ k, At aS k → k ≠ w.heap.size + 1 + 1 := fun k hk => by have := (g1 k hk).1; omega
    have h2 : ∀ k, At aP k → k ≠ w.heap.size + 1 + 1 := fun k hk => by have := (g2 k hk).1; omega
    have h3 : ∀ k, At aT k → k ≠ w.heap.size + 1 + 1 := fun k hk => by have := (g3 k hk).1; omega
    have hb1 := b1.size
    have hk9 := (((Keeps.refl (fun b => b = w.heap.size + 1 + 1) v).setCell (x := ⟨w.heap.size + 1 + 1, 0, none⟩) rfl (.slice aS nS cS)).setCell (x := ⟨w.heap.size + 1 + 1, 1, none⟩) rfl (.slice aP nP cP)).setCell (x := ⟨w.heap.size + 1 + 1, 2, none⟩) rfl (.slice aT nT cT)
    have hb9 := (((b1.trans (hv.mono b1.size)).setCell (p := ⟨w.heap.size + 1 + 1, 0, none⟩) (by show w.heap.size ≤ w.heap.size + 1 + 1; omega) (.slice aS nS cS)).setCell (p := ⟨w.heap.size + 1 + 1, 1, none⟩) (by show w.heap.size ≤ w.heap.size + 1 + 1; omega) (.slice aP nP cP)).setCell (p := ⟨w.heap.size + 1 + 1, 2, none⟩) (by show w.heap.size ≤ w.heap.size + 1 + 1; omega) (.slice aT nT cT)
    exact ⟨_, _, _, _, _, _, _, _, _, rfl, ⟨hS.keeps hk9 h1, hP.keeps hk9 h2, hT2.keeps hk9 h3⟩, LieIn.news (fun k hk => ⟨Nat.le_trans hb1 (g1 k hk).1, by simpa using (g1 k hk).2⟩) (fun k hk => ⟨Nat.le_trans hb1 (g2 k hk).1, by simpa using (g2 k hk).2⟩) (fun k hk => ⟨Nat.le_trans hb1 (g3 k hk).1, by simpa using (g3 k hk).2⟩), hb9⟩
  dsimp only
  clear T1 T2 hs hf hM hE hOk hT hMw
  generalize getV m.ctx r.e.dot.dev r.e.dot.inc = G at *
  go_enter Tryz.func18, Tryz.ntmps18
  go_upto_region 5 with (first | (refine wpList_loadAll rfl 43 _ rfl (w.heap.size + 1) 19 A rfl a1 Tryz.isAgg43 Tryz.sizeOf43 zA ?_) | (go_at_call 62; (with_reducible refine (HR _ hX1).mono ?_); rintro e w2 ⟨rfl, hx2⟩; have hX2 := hX1.trans (hx2.mono hX1.size); have o2 := o1.below hX2 hlt1; have a2 := a1.below hX2 hlt2; have r2 := r1.below hX2 hlt3; have c2 := a2; rw [lA] at c2; have m0 := o2.cell 0 rfl; have m1 := o2.cell 1 rfl; have m2 := o2.cell 2 rfl; have y0 := r2.cell 0 rfl; have y1 := r2.cell 1 rfl; have y2 := r2.cell 2 rfl; have f0 := r2.free 0; have f1 := r2.free 1; have f2 := r2.free 2; have v0 := c2.cell 0 rfl; have v1 := c2.cell 1 rfl; have v2 := c2.cell 2 rfl; have v18 := c2.cell 18 rfl) | (go_at_call 37; (with_reducible refine (HV _ hX2).mono ?_); rintro e w3 ⟨rfl, hx3⟩; have hX3 := hX2.trans (hx3.mono hX2.size); have o3 := o1.below hX3 hlt1; have a3 := a1.below hX3 hlt2; have r3 := r1.below hX3 hlt3; have c3 := a3; rw [lA] at c3; have m0 := o3.cell 0 rfl; have m1 := o3.cell 1 rfl; have m2 := o3.cell 2 rfl; have y0 := r3.cell 0 rfl; have y1 := r3.cell 1 rfl; have y2 := r3.cell 2 rfl; have f0 := r3.free 0; have f1 := r3.free 1; have f2 := r3.free 2; have v0 := c3.cell 0 rfl; have v1 := c3.cell 1 rfl; have v2 := c3.cell 2 rfl; have v18 := c3.cell 18 rfl))
  have hX4 : Below w1.heap.size w1 w3.drew := hX3.drew
  have HS5 : ∀ v, Below w1.heap.size w1 v → v.cell? ⟨w.heap.size, 0, none⟩ = some (.slice ac nc cc) ∧ v.cell? ⟨w.heap.size + 1, 0, none⟩ = some (.int .i64 r.e.dot.dev) ∧ v.cell? ⟨w.heap.size + 1, 1, none⟩ = some (.int .i64 r.e.dot.inc) ∧ v.cell? ⟨w.heap.size + 1, 2, none⟩ = some (.int .i64 r.e.dot.seq) := fun v hv => by
    have q1 := a1.below hv hlt2
    rw [lA] at q1
    exact ⟨(o1.below hv hlt1).cell 0 rfl, q1.cell 0 rfl, q1.cell 1 rfl, q1.cell 2 rfl⟩
  go_wp2_with fail
  refine wp_region_held_drew (S := fun w' => w'.cell? ⟨w.heap.size, 0, none⟩ = some (.slice ac nc cc) ∧ w'.cell? ⟨w.heap.size + 1, 0, none⟩ = some (.int .i64 r.e.dot.dev) ∧ w'.cell? ⟨w.heap.size + 1, 1, none⟩ = some (.int .i64 r.e.dot.inc) ∧ w'.cell? ⟨w.heap.size + 1, 2, none⟩ = some (.int .i64 r.e.dot.seq)) (by kernel_rfl) (HS5 _ hX4) (fun hHeld => ?_)
  first | (refine tR (i := 0) rfl rfl ?_) | (refine tL (i := 0) (v := ?vi1) rfl ?hyi1 ?ri1; case hyi1 => (rintro w' hS; obtain ⟨hs0, hs1, hs2, hs3⟩ := hS; go_simp; try with_reducible rfl))
  try simp only [gA, gB, Act.put, gD, gE, gF]
  first | (refine tR (i := 1) rfl rfl ?_) | (refine tL (i := 1) (v := ?vi2) rfl ?hyi2 ?ri2; case hyi2 => (rintro w' hS; obtain ⟨hs0, hs1, hs2, hs3⟩ := hS; go_simp; try with_reducible rfl))
  try simp only [gA, gB, gC, Act.put, gD, gE, gF]
  first | (refine tR (i := 2) rfl rfl ?_) | (refine tL (i := 2) (v := ?vi3) rfl ?hyi3 ?ri3; case hyi3 => (rintro w' hS; obtain ⟨hs0, hs1, hs2, hs3⟩ := hS; go_simp; try with_reducible rfl))
  try simp only [gA, gB, gC, Act.put, gD, gE, gF]
  first | (refine tR (i := 3) rfl rfl ?_) | (refine tL (i := 3) (v := ?vi4) rfl ?hyi4 ?ri4; case hyi4 => (rintro w' hS; obtain ⟨hs0, hs1, hs2, hs3⟩ := hS; go_simp; try with_reducible rfl))
  try simp only [gA, gB, gC, Act.put, gD, gE, gF]
  first | (refine tR (i := 4) rfl rfl ?_) | (refine tL (i := 4) (v := ?vi5) rfl ?hyi5 ?ri5; case hyi5 => (rintro w' hS; obtain ⟨hs0, hs1, hs2, hs3⟩ := hS; go_simp; try with_reducible rfl))
  try simp only [gA, gB, gC, Act.put, gD, gE, gF]
  first | (refine tR (i := 7) rfl rfl ?_) | (refine tL (i := 7) (v := ?vi6) rfl ?hyi6 ?ri6; case hyi6 => (rintro w' hS; obtain ⟨hs0, hs1, hs2, hs3⟩ := hS; go_simp; try with_reducible rfl))
  try simp only [gA, gB, gC, Act.put, gD, gE, gF]
  first | (refine tR (i := 8) rfl rfl ?_) | (refine tL (i := 8) (v := ?vi7) rfl ?hyi7 ?ri7; case hyi7 => (rintro w' hS; obtain ⟨hs0, hs1, hs2, hs3⟩ := hS; go_simp; try with_reducible rfl))
  try simp only [gA, gB, gC, Act.put, gD, gE, gF]
  first | (refine tR (i := 9) rfl rfl ?_) | (refine tL (i := 9) (v := ?vi8) rfl ?hyi8 ?ri8; case hyi8 => (rintro w' hS; obtain ⟨hs0, hs1, hs2, hs3⟩ := hS; go_simp; try with_reducible rfl))
  try simp only [gA, gB, gC, Act.put, gD, gE, gF]
  refine wpAnyH_ready (rs := [5]) (by kernel_rfl) (by simp) ?_
  refine AllReadyH.cons (o := _) rfl (fun K' hK' => ?_) AllReadyH.nil
  go_simp
  go_at_call 63
  refine (HG _ hX4).mono ?_
  rintro e w5 ⟨rfl, hx5⟩
  have hX5 := hX4.trans (hx5.mono hX4.size)
  have o5 := o1.below hX5 hlt1; have a5 := a1.below hX5 hlt2; have r5 := r1.below hX5 hlt3; have c5 := a5; rw [lA] at c5; have m0 := o5.cell 0 rfl; have m1 := o5.cell 1 rfl; have m2 := o5.cell 2 rfl; have y0 := r5.cell 0 rfl; have y1 := r5.cell 1 rfl; have y2 := r5.cell 2 rfl; have f0 := r5.free 0; have f1 := r5.free 1; have f2 := r5.free 2; have v0 := c5.cell 0 rfl; have v1 := c5.cell 1 rfl; have v2 := c5.cell 2 rfl; have v18 := c5.cell 18 rfl
  dsimp only
  refine hK'.out _ _ (HS5 _ hX5) (fun hHeld => ?_)
  clear hK' K'
  try simp only [gA, gB, gC, Act.put, gD, gE, gF]
  first | (refine tR (i := 6) rfl rfl ?_) | (refine tL (i := 6) (v := ?vi9) rfl ?hyi9 ?ri9; case hyi9 => (rintro w' hS; obtain ⟨hs0, hs1, hs2, hs3⟩ := hS; go_simp; try with_reducible rfl))
  try simp only [gA, gB, gC, Act.put, gD, gE, gF]
  first | (refine tR (i := 10) rfl rfl ?_) | (refine tL (i := 10) (v := ?vi10) rfl ?hyi10 ?ri10; case hyi10 => (rintro w' hS; obtain ⟨hs0, hs1, hs2, hs3⟩ := hS; go_simp; try with_reducible rfl))
  try simp only [gA, gB, gC, Act.put, gD, gE, gF]
  refine wpAnyH_done (by kernel_rfl) ?_ _
  go_wp2_with fail
  refine wp_some (fun wd => Below w1.heap.size w1 wd) hX5 ?_
  rintro wd hXw
  have hXd : Below w1.heap.size w1 wd.drew := hXw.drew
  clear m0 m1 m2 y0 y1 y2 f0 f1 f2 v0 v1 v2 v18 o5 a5 r5 c5 hX5 hx5 hX3 o3 a3 r3 c3 hX2 o2 a2 r2 c2 HR HV HG
  refine wp_region_held_drew (S := fun w' => w'.cell? ⟨w.heap.size, 0, none⟩ = some (.slice ac nc cc) ∧ w'.cell? ⟨w.heap.size, 1, none⟩ = some (.slice ak nk ck) ∧ w'.cell? ⟨w.heap.size, 2, none⟩ = some (.slice ad nd cd) ∧ ObjAt w' (w.heap.size + 1) A.toList) (by kernel_rfl) (HSX _ hXd) (fun hHeld => ?_)
  generalize wd.drew = u0 at *
  first | (refine tR (i := 0) rfl rfl ?_) | (refine tL (i := 0) (v := ?vi11) rfl ?hyi11 ?ri11; case hyi11 => (rintro w' hS; obtain ⟨hs0, hs1, hs2, hs3⟩ := hS; rw [lA] at hs3; have x0 := hs3.cell 0 rfl; have x1 := hs3.cell 1 rfl; have x2 := hs3.cell 2 rfl; have x18 := hs3.cell 18 rfl; go_simp; try with_reducible rfl))
  try simp only [gA, gB, Act.put, gD, gE, gF]
  first | (refine tR (i := 1) rfl rfl ?_) | (refine tL (i := 1) (v := ?vi12) rfl ?hyi12 ?ri12; case hyi12 => (rintro w' hS; obtain ⟨hs0, hs1, hs2, hs3⟩ := hS; rw [lA] at hs3; have x0 := hs3.cell 0 rfl; have x1 := hs3.cell 1 rfl; have x2 := hs3.cell 2 rfl; have x18 := hs3.cell 18 rfl; go_simp; try with_reducible rfl))
  try simp only [gA, gB, gC, Act.put, gD, gE, gF]
  first | (refine tR (i := 2) rfl rfl ?_) | (refine tL (i := 2) (v := ?vi13) rfl ?hyi13 ?ri13; case hyi13 => (rintro w' hS; obtain ⟨hs0, hs1, hs2, hs3⟩ := hS; rw [lA] at hs3; have x0 := hs3.cell 0 rfl; have x1 := hs3.cell 1 rfl; have x2 := hs3.cell 2 rfl; have x18 := hs3.cell 18 rfl; go_simp; try with_reducible rfl))
  try simp only [gA, gB, gC, Act.put, gD, gE, gF]
  first | (refine tR (i := 3) rfl rfl ?_) | (refine tL (i := 3) (v := ?vi14) rfl ?hyi14 ?ri14; case hyi14 => (rintro w' hS; obtain ⟨hs0, hs1, hs2, hs3⟩ := hS; rw [lA] at hs3; have x0 := hs3.cell 0 rfl; have x1 := hs3.cell 1 rfl; have x2 := hs3.cell 2 rfl; have x18 := hs3.cell 18 rfl; go_simp; try with_reducible rfl))
  try simp only [gA, gB, gC, Act.put, gD, gE, gF]
  first | (refine tR (i := 4) rfl rfl ?_) | (refine tL (i := 4) (v := ?vi15) rfl ?hyi15 ?ri15; case hyi15 => (rintro w' hS; obtain ⟨hs0, hs1, hs2, hs3⟩ := hS; rw [lA] at hs3; have x0 := hs3.cell 0 rfl; have x1 := hs3.cell 1 rfl; have x2 := hs3.cell 2 rfl; have x18 := hs3.cell 18 rfl; go_simp; try with_reducible rfl))
  try simp only [gA, gB, gC, Act.put, gD, gE, gF]
  first | (refine tR (i := 5) rfl rfl ?_) | (refine tL (i := 5) (v := ?vi16) rfl ?hyi16 ?ri16; case hyi16 => (rintro w' hS; obtain ⟨hs0, hs1, hs2, hs3⟩ := hS; rw [lA] at hs3; have x0 := hs3.cell 0 rfl; have x1 := hs3.cell 1 rfl; have x2 := hs3.cell 2 rfl; have x18 := hs3.cell 18 rfl; go_simp; try with_reducible rfl))
  try simp only [gA, gB, gC, Act.put, gD, gE, gF]
  first | (refine tR (i := 6) rfl rfl ?_) | (refine tL (i := 6) (v := ?vi17) rfl ?hyi17 ?ri17; case hyi17 => (rintro w' hS; obtain ⟨hs0, hs1, hs2, hs3⟩ := hS; rw [lA] at hs3; have x0 := hs3.cell 0 rfl; have x1 := hs3.cell 1 rfl; have x2 := hs3.cell 2 rfl; have x18 := hs3.cell 18 rfl; go_simp; try with_reducible rfl))
  try simp only [gA, gB, gC, Act.put, gD, gE, gF]
  first | (refine tR (i := 7) rfl rfl ?_) | (refine tL (i := 7) (v := ?vi18) rfl ?hyi18 ?ri18; case hyi18 => (rintro w' hS; obtain ⟨hs0, hs1, hs2, hs3⟩ := hS; rw [lA] at hs3; have x0 := hs3.cell 0 rfl; have x1 := hs3.cell 1 rfl; have x2 := hs3.cell 2 rfl; have x18 := hs3.cell 18 rfl; go_simp; try with_reducible rfl))
  try simp only [gA, gB, gC, Act.put, gD, gE, gF]
  first | (refine tR (i := 9) rfl rfl ?_) | (refine tL (i := 9) (v := ?vi19) rfl ?hyi19 ?ri19; case hyi19 => (rintro w' hS; obtain ⟨hs0, hs1, hs2, hs3⟩ := hS; rw [lA] at hs3; have x0 := hs3.cell 0 rfl; have x1 := hs3.cell 1 rfl; have x2 := hs3.cell 2 rfl; have x18 := hs3.cell 18 rfl; go_simp; try with_reducible rfl))
  try simp only [gA, gB, gC, Act.put, gD, gE, gF]
  first | (refine tR (i := 10) rfl rfl ?_) | (refine tL (i := 10) (v := ?vi20) rfl ?hyi20 ?ri20; case hyi20 => (rintro w' hS; obtain ⟨hs0, hs1, hs2, hs3⟩ := hS; rw [lA] at hs3; have x0 := hs3.cell 0 rfl; have x1 := hs3.cell 1 rfl; have x2 := hs3.cell 2 rfl; have x18 := hs3.cell 18 rfl; go_simp; try with_reducible rfl))
  try simp only [gA, gB, gC, Act.put, gD, gE, gF]
  refine wpAnyH_take (i := 11) rfl (by kernel_rfl) (by kernel_rfl) (by kernel_rfl) (fun _ _ _ h => h) (Or.inl ⟨by rfl, fun w' hS => (by obtain ⟨-, -, -, hs3⟩ := hS; exact execLoadAll 43 _ rfl (w.heap.size + 1) 19 A rfl hs3 Tryz.isAgg43 Tryz.sizeOf43 zA)⟩) (by assumption) ?_
  try simp only [gA, gB, gC, Act.put, gD, gE, gF]
  first | (refine tR (i := 14) rfl rfl ?_) | (refine tL (i := 14) (v := ?vi21) rfl ?hyi21 ?ri21; case hyi21 => (rintro w' hS; obtain ⟨hs0, hs1, hs2, hs3⟩ := hS; rw [lA] at hs3; have x0 := hs3.cell 0 rfl; have x1 := hs3.cell 1 rfl; have x2 := hs3.cell 2 rfl; have x18 := hs3.cell 18 rfl; go_simp; try with_reducible rfl))
  try simp only [gA, gB, gC, Act.put, gD, gE, gF]
  first | (refine tR (i := 15) rfl rfl ?_) | (refine tL (i := 15) (v := ?vi22) rfl ?hyi22 ?ri22; case hyi22 => (rintro w' hS; obtain ⟨hs0, hs1, hs2, hs3⟩ := hS; rw [lA] at hs3; have x0 := hs3.cell 0 rfl; have x1 := hs3.cell 1 rfl; have x2 := hs3.cell 2 rfl; have x18 := hs3.cell 18 rfl; go_simp; try with_reducible rfl))
  try simp only [gA, gB, gC, Act.put, gD, gE, gF]
  first | (refine tR (i := 17) rfl rfl ?_) | (refine tL (i := 17) (v := ?vi23) rfl ?hyi23 ?ri23; case hyi23 => (rintro w' hS; obtain ⟨hs0, hs1, hs2, hs3⟩ := hS; rw [lA] at hs3; have x0 := hs3.cell 0 rfl; have x1 := hs3.cell 1 rfl; have x2 := hs3.cell 2 rfl; have x18 := hs3.cell 18 rfl; go_simp; try with_reducible rfl))
  try simp only [gA, gB, gC, Act.put, gD, gE, gF]
  first | (refine tR (i := 18) rfl rfl ?_) | (refine tL (i := 18) (v := ?vi24) rfl ?hyi24 ?ri24; case hyi24 => (rintro w' hS; obtain ⟨hs0, hs1, hs2, hs3⟩ := hS; rw [lA] at hs3; have x0 := hs3.cell 0 rfl; have x1 := hs3.cell 1 rfl; have x2 := hs3.cell 2 rfl; have x18 := hs3.cell 18 rfl; go_simp; try with_reducible rfl))
  try simp only [gA, gB, gC, Act.put, gD, gE, gF]
  apply meet7 (F := fun v x42 x46 x54 _ _ _ => Below w1.heap.size w1 v ∧ (v.cell? ⟨w.heap.size, 0, none⟩ = some (.slice ac nc cc) ∧ v.cell? ⟨w.heap.size, 1, none⟩ = some (.slice ak nk ck) ∧ v.cell? ⟨w.heap.size, 2, none⟩ = some (.slice ad nd cd) ∧ ObjAt v (w.heap.size + 1) A.toList) ∧ ∃ aS nS cS aP nP cP aT nT cT, x42 = Value.slice aS nS cS ∧ x46 = Value.slice aP nP cP ∧ x54 = Value.slice aT nT cT ∧ RowOf encD 3 v aS nS cS Vn ∧ RowOf encE 19 v aP nP cP Kn ∧ RowOf encD 3 v aT nT cT SD ∧ (∀ k, At aS k → w1.heap.size ≤ k ∧ k < v.heap.size) ∧ (∀ k, At aP k → w1.heap.size ≤ k ∧ k < v.heap.size) ∧ (∀ k, At aT k → w1.heap.size ≤ k ∧ k < v.heap.size))
  · intro HEND
    refine wpAnyH_ready (rs := [8, 13]) (by kernel_rfl) (by simp) ?_
    refine AllReadyH.cons (o := _) rfl (fun K' hK' => ?_) (AllReadyH.cons (o := _) rfl (fun K' hK' => ?_) AllReadyH.nil)
    · go_simp
      go_at_call 64
      refine (HS _ hXd).mono ?_
      rintro e u1 ⟨a3, c5, rfl, z6, hx7⟩
      have hX2 := hXd.trans (hx7.mono hXd.size)
      have r8 := z6.row encD_len
      have lt9 := fun k hk => (z6.lt' k hk).2
      have ne10 : ∀ k, At a3 k → w1.heap.size ≤ k := fun k hk => by have h4 := (z6.lt' k hk).1; have h5 := hXd.size; omega
      dsimp only
      refine hK'.out _ _ (HSX _ hX2) (fun hHeld => ?_)
      clear hK' K'
      try simp only [gA, gB, gC, Act.put, gD, gE, gF]
      refine wpAnyH_ready (rs := [12, 13]) (by kernel_rfl) (by simp) ?_
      refine AllReadyH.cons (o := _) rfl (fun K' hK' => ?_) (AllReadyH.cons (o := _) rfl (fun K' hK' => ?_) AllReadyH.nil)
      · go_simp
        go_at_call 65
        refine (HP _ hX2).mono ?_
        rintro e u11 ⟨a13, n14, c15, rfl, z16, hx17⟩
        have hX12 := hX2.trans (hx17.mono hX2.size)
        have r18 := r8.below hx17
        have lt19 := fun k hk => Nat.lt_of_lt_of_le (lt9 k hk) hx17.size
        have r20 := z16.row encE_len
        have lt21 := fun k hk => (z16.lt' k hk).2
        have ne22 : ∀ k, At a13 k → w1.heap.size ≤ k := fun k hk => by have h4 := (z16.lt' k hk).1; have h5 := hX2.size; omega
        dsimp only
        refine hK'.out _ _ (HSX _ hX12) (fun hHeld => ?_)
        clear hK' K'
        try simp only [gA, gB, gC, Act.put, gD, gE, gF]
        refine wpAnyH_ready (rs := [13]) (by kernel_rfl) (by simp) ?_
        refine AllReadyH.cons (o := _) rfl (fun K' hK' => ?_) AllReadyH.nil
        go_simp
        have tb25 := below_alloc u11 (.cells #[] 35)
        have hX24 := hX12.trans (tb25.mono hX12.size)
        have z26 := (OwnZ.lit encD 3 35 u11).base hX12.size
        have of27 : Off (some ⟨u11.heap.size, 0, none⟩) a3 := (Off.new (t := none) lt19 (Nat.le_refl _)).symm
        have of28 : Off (some ⟨u11.heap.size, 0, none⟩) a13 := (Off.new (t := none) lt21 (Nat.le_refl _)).symm
        have r29 := r18.below tb25
        have lt30 := fun k hk => Nat.lt_of_lt_of_le (lt19 k hk) tb25.size
        have r31 := r20.below tb25
        have lt32 := fun k hk => Nat.lt_of_lt_of_le (lt21 k hk) tb25.size
        refine hK'.out _ _ (HSX _ hX24) (fun hHeld => ?_)
        clear hK' K'
        try simp only [gA, gB, gC, Act.put, gD, gE, gF]
        generalize u11.alloc (.cells #[] 35) = u23 at *
        refine wpAnyH_ready (rs := [16]) (by kernel_rfl) (by simp) ?_
        refine AllReadyH.cons (o := _) rfl (fun K' hK' => ?_) AllReadyH.nil
        refine step_append_rows encD_len (by decide) encD_one (by rfl) (.tmp 47) (.tmp 49) 29 (by rfl) 35 j0 (.agg #[.int .i64 0, .int .i64 0, .int .i64 0]) 24 Tryz.underlying29 hj jz0 jz1 jz2 rfl  z26 rfl (hM1 _ hX24).dead rfl nd (by omega) (by unfold maxLen; omega) (by omega) hX24.size ?_
        intro q35 c36 u33 z37 xg38 gg39 nn40
        have hX34 := hX24.trans xg38
        have kk41 := Keeps.ofGrown xg38 gg39
        have r42 := r29.keeps kk41 (fun k h1 h2 => of27 k h2 h1)
        have of44 := of27.moved nn40 lt30
        have lt43 := fun k hk => Nat.lt_of_lt_of_le (lt30 k hk) kk41.size
        have r45 := r31.keeps kk41 (fun k h1 h2 => of28 k h2 h1)
        have of47 := of28.moved nn40 lt32
        have lt46 := fun k hk => Nat.lt_of_lt_of_le (lt32 k hk) kk41.size
        refine hK'.out _ _ (HSX _ hX34) (fun hHeld => ?_)
        clear hK' K'
        try simp only [gA, gB, gC, Act.put, gD, gE, gF]
        refine wpAnyH_ready (rs := [19]) (by kernel_rfl) (by simp) ?_
        refine AllReadyH.cons (o := _) rfl (fun K' hK' => ?_) AllReadyH.nil
        refine step_append_rows encD_len (by decide) encD_one (by rfl) (.tmp 50) (.tmp 52) 29 (by rfl) 35 j0 (.agg #[.int .i64 0, .int .i64 0, .int .i64 0]) 24 Tryz.underlying29 hj jz0 jz1 jz2 rfl  z37 rfl (hov _ hX34) rfl (nd + no) rfl (by unfold maxLen; omega) (by omega) hX34.size ?_
        intro q50 c51 u48 z52 xg53 gg54 nn55
        have hX49 := hX34.trans xg53
        have kk56 := Keeps.ofGrown xg53 gg54
        have r57 := r42.keeps kk56 (fun k h1 h2 => of44 k h2 h1)
        have of59 := of44.moved nn55 lt43
        have lt58 := fun k hk => Nat.lt_of_lt_of_le (lt43 k hk) kk56.size
        have r60 := r45.keeps kk56 (fun k h1 h2 => of47 k h2 h1)
        have of62 := of47.moved nn55 lt46
        have lt61 := fun k hk => Nat.lt_of_lt_of_le (lt46 k hk) kk56.size
        refine hK'.out _ _ (HSX _ hX49) (fun hHeld => ?_)
        clear hK' K'
        try simp only [gA, gB, gC, Act.put, gD, gE, gF]
        refine wpAnyH_ready (rs := [20]) (by kernel_rfl) (by simp) ?_
        refine AllReadyH.cons (o := _) rfl (fun K' hK' => ?_) AllReadyH.nil
        go_simp
        go_at_call 66
        refine (HSO _ _ _ (z52.row encD_len)).mono ?_
        rintro e u63 ⟨a65, c66, rfl, z67, hx68⟩
        have hX64 := hX49.trans (hx68.mono hX49.size)
        have r69 := r57.below hx68
        have lt70 := fun k hk => Nat.lt_of_lt_of_le (lt58 k hk) hx68.size
        have r71 := r60.below hx68
        have lt72 := fun k hk => Nat.lt_of_lt_of_le (lt61 k hk) hx68.size
        have r73 := z67.row encD_len
        have ne74 : ∀ k, At a65 k → w1.heap.size ≤ k ∧ k < u63.heap.size := fun k hk => by have h4 := (z67.lt' k hk); have h5 := hX49.size; omega
        dsimp only
        refine hK'.out _ _ (HSX _ hX64) (fun hHeld => ?_)
        clear hK' K'
        try simp only [gA, gB, gC, Act.put, gD, gE, gF]
        generalize hg42 : Value.slice a3 Vn.length c5 = g42
        generalize hg46 : Value.slice a13 n14 c15 = g46
        generalize hg54 : Value.slice a65 nsd c66 = g54
        generalize hg47 : Value.slice (some ⟨u11.heap.size, 0, none⟩) 0 0 = g47
        generalize hg50 : Value.slice q35 nd c36 = g50
        generalize hg53 : Value.slice q50 (nd + no) c51 = g53
        exact HEND u63 g42 g46 g54 g47 g50 g53 ⟨hX64, hHeld, _, _, _, _, _, _, _, _, _, hg42.symm, hg46.symm, hg54.symm, r69, r71, r73, fun k hk => ⟨ne10 k hk, lt70 k hk⟩, fun k hk => ⟨ne22 k hk, lt72 k hk⟩, ne74⟩
      · go_simp
        have tb77 := below_alloc u1 (.cells #[] 35)
        have hX76 := hX2.trans (tb77.mono hX2.size)
        have z78 := (OwnZ.lit encD 3 35 u1).base hX2.size
        have of79 : Off (some ⟨u1.heap.size, 0, none⟩) a3 := (Off.new (t := none) lt9 (Nat.le_refl _)).symm
        have r80 := r8.below tb77
        have lt81 := fun k hk => Nat.lt_of_lt_of_le (lt9 k hk) tb77.size
        refine hK'.out _ _ (HSX _ hX76) (fun hHeld => ?_)
        clear hK' K'
        try simp only [gA, gB, gC, Act.put, gD, gE, gF]
        generalize u1.alloc (.cells #[] 35) = u75 at *
        refine wpAnyH_ready (rs := [12]) (by kernel_rfl) (by simp) ?_
        refine AllReadyH.cons (o := _) rfl (fun K' hK' => ?_) AllReadyH.nil
        go_simp
        go_at_call 65
        refine (HP _ hX76).mono ?_
        rintro e u82 ⟨a84, n85, c86, rfl, z87, hx88⟩
        have hX83 := hX76.trans (hx88.mono hX76.size)
        have of89 : Off (some ⟨u1.heap.size, 0, none⟩) a84 := fun k h1 h2 => by have h3 := (z78.lt' k h1).2; have h4 := (z87.lt' k h2).1; omega
        have z90 := z78.below hx88 (Nat.le_refl _)
        have r91 := r80.below hx88
        have lt92 := fun k hk => Nat.lt_of_lt_of_le (lt81 k hk) hx88.size
        have r93 := z87.row encE_len
        have lt94 := fun k hk => (z87.lt' k hk).2
        have ne95 : ∀ k, At a84 k → w1.heap.size ≤ k := fun k hk => by have h4 := (z87.lt' k hk).1; have h5 := hX76.size; omega
        dsimp only
        refine hK'.out _ _ (HSX _ hX83) (fun hHeld => ?_)
        clear hK' K'
        try simp only [gA, gB, gC, Act.put, gD, gE, gF]
        refine wpAnyH_ready (rs := [16]) (by kernel_rfl) (by simp) ?_
        refine AllReadyH.cons (o := _) rfl (fun K' hK' => ?_) AllReadyH.nil
        refine step_append_rows encD_len (by decide) encD_one (by rfl) (.tmp 47) (.tmp 49) 29 (by rfl) 35 j0 (.agg #[.int .i64 0, .int .i64 0, .int .i64 0]) 24 Tryz.underlying29 hj jz0 jz1 jz2 rfl  z90 rfl (hM1 _ hX83).dead rfl nd (by omega) (by unfold maxLen; omega) (by omega) hX83.size ?_
        intro q98 c99 u96 z100 xg101 gg102 nn103
        have hX97 := hX83.trans xg101
        have kk104 := Keeps.ofGrown xg101 gg102
        have r105 := r91.keeps kk104 (fun k h1 h2 => of79 k h2 h1)
        have of107 := of79.moved nn103 lt92
        have lt106 := fun k hk => Nat.lt_of_lt_of_le (lt92 k hk) kk104.size
        have r108 := r93.keeps kk104 (fun k h1 h2 => of89 k h2 h1)
        have of110 := of89.moved nn103 lt94
        have lt109 := fun k hk => Nat.lt_of_lt_of_le (lt94 k hk) kk104.size
        refine hK'.out _ _ (HSX _ hX97) (fun hHeld => ?_)
        clear hK' K'
        try simp only [gA, gB, gC, Act.put, gD, gE, gF]
        refine wpAnyH_ready (rs := [19]) (by kernel_rfl) (by simp) ?_
        refine AllReadyH.cons (o := _) rfl (fun K' hK' => ?_) AllReadyH.nil
        refine step_append_rows encD_len (by decide) encD_one (by rfl) (.tmp 50) (.tmp 52) 29 (by rfl) 35 j0 (.agg #[.int .i64 0, .int .i64 0, .int .i64 0]) 24 Tryz.underlying29 hj jz0 jz1 jz2 rfl  z100 rfl (hov _ hX97) rfl (nd + no) rfl (by unfold maxLen; omega) (by omega) hX97.size ?_
        intro q113 c114 u111 z115 xg116 gg117 nn118
        have hX112 := hX97.trans xg116
        have kk119 := Keeps.ofGrown xg116 gg117
        have r120 := r105.keeps kk119 (fun k h1 h2 => of107 k h2 h1)
        have of122 := of107.moved nn118 lt106
        have lt121 := fun k hk => Nat.lt_of_lt_of_le (lt106 k hk) kk119.size
        have r123 := r108.keeps kk119 (fun k h1 h2 => of110 k h2 h1)
        have of125 := of110.moved nn118 lt109
        have lt124 := fun k hk => Nat.lt_of_lt_of_le (lt109 k hk) kk119.size
        refine hK'.out _ _ (HSX _ hX112) (fun hHeld => ?_)
        clear hK' K'
        try simp only [gA, gB, gC, Act.put, gD, gE, gF]
        refine wpAnyH_ready (rs := [20]) (by kernel_rfl) (by simp) ?_
        refine AllReadyH.cons (o := _) rfl (fun K' hK' => ?_) AllReadyH.nil
        go_simp
        go_at_call 66
        refine (HSO _ _ _ (z115.row encD_len)).mono ?_
        rintro e u126 ⟨a128, c129, rfl, z130, hx131⟩
        have hX127 := hX112.trans (hx131.mono hX112.size)
        have r132 := r120.below hx131
        have lt133 := fun k hk => Nat.lt_of_lt_of_le (lt121 k hk) hx131.size
        have r134 := r123.below hx131
        have lt135 := fun k hk => Nat.lt_of_lt_of_le (lt124 k hk) hx131.size
        have r136 := z130.row encD_len
        have ne137 : ∀ k, At a128 k → w1.heap.size ≤ k ∧ k < u126.heap.size := fun k hk => by have h4 := (z130.lt' k hk); have h5 := hX112.size; omega
        dsimp only
        refine hK'.out _ _ (HSX _ hX127) (fun hHeld => ?_)
        clear hK' K'
        try simp only [gA, gB, gC, Act.put, gD, gE, gF]
        generalize hg42 : Value.slice a3 Vn.length c5 = g42
        generalize hg46 : Value.slice a84 n85 c86 = g46
        generalize hg54 : Value.slice a128 nsd c129 = g54
        generalize hg47 : Value.slice (some ⟨u1.heap.size, 0, none⟩) 0 0 = g47
        generalize hg50 : Value.slice q98 nd c99 = g50
        generalize hg53 : Value.slice q113 (nd + no) c114 = g53
        exact HEND u126 g42 g46 g54 g47 g50 g53 ⟨hX127, hHeld, _, _, _, _, _, _, _, _, _, hg42.symm, hg46.symm, hg54.symm, r132, r134, r136, fun k hk => ⟨ne10 k hk, lt133 k hk⟩, fun k hk => ⟨ne95 k hk, lt135 k hk⟩, ne137⟩
    · go_simp
      have tb140 := below_alloc u0 (.cells #[] 35)
      have hX139 := hXd.trans (tb140.mono hXd.size)
      have z141 := (OwnZ.lit encD 3 35 u0).base hXd.size
      refine hK'.out _ _ (HSX _ hX139) (fun hHeld => ?_)
      clear hK' K'
      try simp only [gA, gB, gC, Act.put, gD, gE, gF]
      generalize u0.alloc (.cells #[] 35) = u138 at *
      refine wpAnyH_ready (rs := [8]) (by kernel_rfl) (by simp) ?_
      refine AllReadyH.cons (o := _) rfl (fun K' hK' => ?_) AllReadyH.nil
      go_simp
      go_at_call 64
      refine (HS _ hX139).mono ?_
      rintro e u142 ⟨a144, c146, rfl, z147, hx148⟩
      have hX143 := hX139.trans (hx148.mono hX139.size)
      have of149 : Off (some ⟨u0.heap.size, 0, none⟩) a144 := fun k h1 h2 => by have h3 := (z141.lt' k h1).2; have h4 := (z147.lt' k h2).1; omega
      have z150 := z141.below hx148 (Nat.le_refl _)
      have r151 := z147.row encD_len
      have lt152 := fun k hk => (z147.lt' k hk).2
      have ne153 : ∀ k, At a144 k → w1.heap.size ≤ k := fun k hk => by have h4 := (z147.lt' k hk).1; have h5 := hX139.size; omega
      dsimp only
      refine hK'.out _ _ (HSX _ hX143) (fun hHeld => ?_)
      clear hK' K'
      try simp only [gA, gB, gC, Act.put, gD, gE, gF]
      refine wpAnyH_ready (rs := [12]) (by kernel_rfl) (by simp) ?_
      refine AllReadyH.cons (o := _) rfl (fun K' hK' => ?_) AllReadyH.nil
      go_simp
      go_at_call 65
      refine (HP _ hX143).mono ?_
      rintro e u154 ⟨a156, n157, c158, rfl, z159, hx160⟩
      have hX155 := hX143.trans (hx160.mono hX143.size)
      have of161 : Off (some ⟨u0.heap.size, 0, none⟩) a156 := fun k h1 h2 => by have h3 := (z150.lt' k h1).2; have h4 := (z159.lt' k h2).1; omega
      have z162 := z150.below hx160 (Nat.le_refl _)
      have r163 := r151.below hx160
      have lt164 := fun k hk => Nat.lt_of_lt_of_le (lt152 k hk) hx160.size
      have r165 := z159.row encE_len
      have lt166 := fun k hk => (z159.lt' k hk).2
      have ne167 : ∀ k, At a156 k → w1.heap.size ≤ k := fun k hk => by have h4 := (z159.lt' k hk).1; have h5 := hX143.size; omega
      dsimp only
      refine hK'.out _ _ (HSX _ hX155) (fun hHeld => ?_)
      clear hK' K'
      try simp only [gA, gB, gC, Act.put, gD, gE, gF]
      refine wpAnyH_ready (rs := [16]) (by kernel_rfl) (by simp) ?_
      refine AllReadyH.cons (o := _) rfl (fun K' hK' => ?_) AllReadyH.nil
      refine step_append_rows encD_len (by decide) encD_one (by rfl) (.tmp 47) (.tmp 49) 29 (by rfl) 35 j0 (.agg #[.int .i64 0, .int .i64 0, .int .i64 0]) 24 Tryz.underlying29 hj jz0 jz1 jz2 rfl  z162 rfl (hM1 _ hX155).dead rfl nd (by omega) (by unfold maxLen; omega) (by omega) hX155.size ?_
      intro q170 c171 u168 z172 xg173 gg174 nn175
      have hX169 := hX155.trans xg173
      have kk176 := Keeps.ofGrown xg173 gg174
      have r177 := r163.keeps kk176 (fun k h1 h2 => of149 k h2 h1)
      have of179 := of149.moved nn175 lt164
      have lt178 := fun k hk => Nat.lt_of_lt_of_le (lt164 k hk) kk176.size
      have r180 := r165.keeps kk176 (fun k h1 h2 => of161 k h2 h1)
      have of182 := of161.moved nn175 lt166
      have lt181 := fun k hk => Nat.lt_of_lt_of_le (lt166 k hk) kk176.size
      refine hK'.out _ _ (HSX _ hX169) (fun hHeld => ?_)
      clear hK' K'
      try simp only [gA, gB, gC, Act.put, gD, gE, gF]
      refine wpAnyH_ready (rs := [19]) (by kernel_rfl) (by simp) ?_
      refine AllReadyH.cons (o := _) rfl (fun K' hK' => ?_) AllReadyH.nil
      refine step_append_rows encD_len (by decide) encD_one (by rfl) (.tmp 50) (.tmp 52) 29 (by rfl) 35 j0 (.agg #[.int .i64 0, .int .i64 0, .int .i64 0]) 24 Tryz.underlying29 hj jz0 jz1 jz2 rfl  z172 rfl (hov _ hX169) rfl (nd + no) rfl (by unfold maxLen; omega) (by omega) hX169.size ?_
      intro q185 c186 u183 z187 xg188 gg189 nn190
      have hX184 := hX169.trans xg188
      have kk191 := Keeps.ofGrown xg188 gg189
      have r192 := r177.keeps kk191 (fun k h1 h2 => of179 k h2 h1)
      have of194 := of179.moved nn190 lt178
      have lt193 := fun k hk => Nat.lt_of_lt_of_le (lt178 k hk) kk191.size
      have r195 := r180.keeps kk191 (fun k h1 h2 => of182 k h2 h1)
      have of197 := of182.moved nn190 lt181
      have lt196 := fun k hk => Nat.lt_of_lt_of_le (lt181 k hk) kk191.size
      refine hK'.out _ _ (HSX _ hX184) (fun hHeld => ?_)
      clear hK' K'
      try simp only [gA, gB, gC, Act.put, gD, gE, gF]
      refine wpAnyH_ready (rs := [20]) (by kernel_rfl) (by simp) ?_
      refine AllReadyH.cons (o := _) rfl (fun K' hK' => ?_) AllReadyH.nil
      go_simp
      go_at_call 66
      refine (HSO _ _ _ (z187.row encD_len)).mono ?_
      rintro e u198 ⟨a200, c201, rfl, z202, hx203⟩
      have hX199 := hX184.trans (hx203.mono hX184.size)
      have r204 := r192.below hx203
      have lt205 := fun k hk => Nat.lt_of_lt_of_le (lt193 k hk) hx203.size
      have r206 := r195.below hx203
      have lt207 := fun k hk => Nat.lt_of_lt_of_le (lt196 k hk) hx203.size
      have r208 := z202.row encD_len
      have ne209 : ∀ k, At a200 k → w1.heap.size ≤ k ∧ k < u198.heap.size := fun k hk => by have h4 := (z202.lt' k hk); have h5 := hX184.size; omega
      dsimp only
      refine hK'.out _ _ (HSX _ hX199) (fun hHeld => ?_)
      clear hK' K'
      try simp only [gA, gB, gC, Act.put, gD, gE, gF]
      generalize hg42 : Value.slice a144 Vn.length c146 = g42
      generalize hg46 : Value.slice a156 n157 c158 = g46
      generalize hg54 : Value.slice a200 nsd c201 = g54
      generalize hg47 : Value.slice (some ⟨u0.heap.size, 0, none⟩) 0 0 = g47
      generalize hg50 : Value.slice q170 nd c171 = g50
      generalize hg53 : Value.slice q185 (nd + no) c186 = g53
      exact HEND u198 g42 g46 g54 g47 g50 g53 ⟨hX199, hHeld, _, _, _, _, _, _, _, _, _, hg42.symm, hg46.symm, hg54.symm, r204, r206, r208, fun k hk => ⟨ne153 k hk, lt205 k hk⟩, fun k hk => ⟨ne167 k hk, lt207 k hk⟩, ne209⟩
  · rintro u g42 g46 g54 g47 g50 g53 ⟨hX, hHeld, aS, nS, cS, aP, nP, cP, aT, nT, cT, rfl, rfl, rfl, hS, hP, hT, neS, neP, neT⟩
    first | (refine tR (i := 21) rfl rfl ?_) | (refine tL (i := 21) (v := ?vi25) rfl ?hyi25 ?ri25; case hyi25 => (rintro w' hS; obtain ⟨hs0, hs1, hs2, hs3⟩ := hS; rw [lA] at hs3; have x0 := hs3.cell 0 rfl; have x1 := hs3.cell 1 rfl; have x2 := hs3.cell 2 rfl; have x18 := hs3.cell 18 rfl; go_simp; try with_reducible rfl))
    try simp only [gA, gB, gC, Act.put, gD, gE, gF]
    have rr := r1.below hX hlt3; have y0 := rr.cell 0 rfl; have y1 := rr.cell 1 rfl; have y2 := rr.cell 2 rfl; have f0 := rr.free 0; have f1 := rr.free 1; have f2 := rr.free 2
    refine wpAnyH_ready (rs := [22]) (by kernel_rfl) (by simp) ?_
    refine AllReadyH.cons (o := _) rfl (fun K' hK' => ?_) AllReadyH.nil
    go_simp
    refine hK'.out _ _ (HS9 _ hX _ _ _) (fun hHeld => ?_)
    clear hK' K'
    try simp only [gA, gB, gC, Act.put]
    first | (refine tR (i := 23) rfl rfl ?_) | (refine tL (i := 23) (v := ?vi26) rfl ?hyi26 ?ri26; case hyi26 => (rintro w' hS; obtain ⟨hs0, hs1, hs2, hs3⟩ := hS; rw [lA] at hs3; have x0 := hs3.cell 0 rfl; have x1 := hs3.cell 1 rfl; have x2 := hs3.cell 2 rfl; have x18 := hs3.cell 18 rfl; go_simp; try with_reducible rfl))
    try simp only [gA, gB, gC, Act.put, gD, gE, gF]
    first | (refine tR (i := 24) rfl rfl ?_) | (refine tL (i := 24) (v := ?vi27) rfl ?hyi27 ?ri27; case hyi27 => (rintro w' hS; obtain ⟨hs0, hs1, hs2, hs3⟩ := hS; rw [lA] at hs3; have x0 := hs3.cell 0 rfl; have x1 := hs3.cell 1 rfl; have x2 := hs3.cell 2 rfl; have x18 := hs3.cell 18 rfl; go_simp; try with_reducible rfl))
    try simp only [gA, gB, gC, Act.put, gD, gE, gF]
    refine wpAnyH_done (by kernel_rfl) ?_ _
    go_wp2
    have o9 := ((rr.set 0 (.slice aS nS cS)).set 1 (.slice aP nP cP)).set 2 (.slice aT nT cT)
    have r0' := o9.cell 0 rfl; have r1' := o9.cell 1 rfl; have r2' := o9.cell 2 rfl
    exact bodyPost_ret (v := .tuple #[.agg #[.slice aS nS cS, .slice aP nP cP, .slice aT nT cT], .bool true, .int .i64 0]) (by simp [results, Tryz.results18, go_sem, r0', r1', r2']) rfl (HFIN _ hX _ _ _ _ _ _ _ _ _ hS hP hT neS neP neT)
end Go.Proofs.YtaodjnkjjmhecaaGreatDoor
