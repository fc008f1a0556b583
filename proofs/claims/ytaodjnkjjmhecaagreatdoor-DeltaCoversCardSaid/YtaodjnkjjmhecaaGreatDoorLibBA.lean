/- Contracts and plain words that the laws' proofs stand on. -/
import Derived.Test.YtaodjnkjjmhecaaGreatDoorShort
import Derived.Test.YtaodjnkjjmhecaaGreatDoorLibAT
namespace Go.Proofs.YtaodjnkjjmhecaaGreatDoor
open Go.RowKit Go.Sort
set_option linter.unusedVariables false
def cmpAG (d i e j : Int) : Int := if d = e then cmpN i j else cmpN d e
set_option maxRecDepth 100000 in
theorem dotCompareG (d i e j : Int) (w : World) :
    Calls Tryz.prog 127 #[.agg #[.int .i64 d, .int .i64 i], .agg #[.int .i64 e, .int .i64 j]] w fun en w' => en = .returned (.int .i64 (cmpAG d i e j)) ∧ Grows w w' := by
  obtain ⟨o1, o2, hb⟩ := two_objs w #[.int .i64 d, .int .i64 i] #[.int .i64 e, .int .i64 j] 33 33
  have u0 := o1.cell 0 rfl; have u1 := o1.cell 1 rfl
  have v0 := o2.cell 0 rfl; have v1 := o2.cell 1 rfl
  have hg : Grows w ((w.alloc (.cells #[.int .i64 d, .int .i64 i] 33)).alloc (.cells #[.int .i64 e, .int .i64 j] 33)) := (Grows.alloc w _).trans (Grows.alloc _ _)
  clear o1 o2 hb
  have H1 := fun w => cmpIntC d e w
  have H2 := fun w => cmpIntC i j w
  unfold cmpAG
  generalize cmpN d e = C1 at *
  generalize cmpN i j = C2 at *
  by_cases h : d = e
  · have e1 : (d != e) = false := by rw [h]; simp
    have e2 : (d == e) = true := beq_iff_eq.2 h
    rw [if_pos h]
    clear h
    go_enter Tryz.func127, Tryz.ntmps127
    go_wp2_with (go_at_call 154; (with_reducible refine (H2 _).mono ?_); rintro e w1 ⟨rfl, rfl⟩)
    go_ret
    exact ⟨rfl, hg⟩
  · have e1 : (d != e) = true := by simp [h]
    have e2 : (d == e) = false := beq_eq_false_iff_ne.2 h
    rw [if_neg h]
    clear h
    go_enter Tryz.func127, Tryz.ntmps127
    go_wp2_with (go_at_call 154; (with_reducible refine (H1 _).mono ?_); rintro e w1 ⟨rfl, rfl⟩)
    go_ret
    exact ⟨rfl, hg⟩
def ordD (x y : DotN) : Int := if x.dev = y.dev ∧ x.inc = y.inc then cmpN x.seq y.seq else cmpAG x.dev x.inc y.dev y.inc
set_option maxRecDepth 100000 in
theorem dotOrderG (x y : DotN) (w : World) :
    Calls Tryz.prog 137 #[.agg #[.int .i64 x.dev, .int .i64 x.inc, .int .i64 x.seq], .agg #[.int .i64 y.dev, .int .i64 y.inc, .int .i64 y.seq]] w fun en w' => en = .returned (.int .i64 (ordD x y)) ∧ Grows w w' := by
  obtain ⟨o1, o2, hb⟩ := two_objs w #[.int .i64 x.dev, .int .i64 x.inc, .int .i64 x.seq] #[.int .i64 y.dev, .int .i64 y.inc, .int .i64 y.seq] 35 35
  have u0 := o1.cell 0 rfl; have u1 := o1.cell 1 rfl; have u2 := o1.cell 2 rfl
  have v0 := o2.cell 0 rfl; have v1 := o2.cell 1 rfl; have v2 := o2.cell 2 rfl
  have hg : Grows w ((w.alloc (.cells #[.int .i64 x.dev, .int .i64 x.inc, .int .i64 x.seq] 35)).alloc (.cells #[.int .i64 y.dev, .int .i64 y.inc, .int .i64 y.seq] 35)) := (Grows.alloc w _).trans (Grows.alloc _ _)
  clear o1 o2 hb
  have H1 := fun w => dotCompareG x.dev x.inc y.dev y.inc w
  have H2 := fun w => cmpIntC x.seq y.seq w
  have hE := fun v => eqActor x.dev x.inc y.dev y.inc v
  unfold ordD
  generalize cmpAG x.dev x.inc y.dev y.inc = C1 at *
  generalize cmpN x.seq y.seq = C2 at *
  by_cases h : x.dev = y.dev ∧ x.inc = y.inc
  · rw [if_pos h]
    have e1 : (x.dev == y.dev && x.inc == y.inc) = true := by rw [h.1, h.2]; simp
    simp only [e1] at hE
    clear h e1 H1
    go_enter Tryz.func137, Tryz.ntmps137
    go_wp2_with (go_at_call 154; (with_reducible refine (H2 _).mono ?_); rintro e w1 ⟨rfl, rfl⟩)
    go_ret
    exact ⟨rfl, hg⟩
  · rw [if_neg h]
    have e1 : (x.dev == y.dev && x.inc == y.inc) = false := by rw [Bool.eq_false_iff]; intro c; rw [Bool.and_eq_true, beq_iff_eq, beq_iff_eq] at c; exact h c
    simp only [e1] at hE
    clear h e1 H2
    go_enter Tryz.func137, Tryz.ntmps137
    go_wp2_with (go_at_call 127; (with_reducible refine (H1 _).mono ?_); rintro e w1 ⟨rfl, hx⟩; have hg := hg.trans hx)
    go_ret
    exact ⟨rfl, hg⟩
theorem ord_neg (x y : DotN) : decide (ordD x y < 0) = lessD x y := by
  unfold ordD cmpAG cmpN
  rw [Bool.eq_iff_iff, decide_eq_true_iff, lessD_iff]
  repeat' split
  all_goals first | omega | (constructor <;> intros <;> first | omega | contradiction)
theorem ord_less (x y : DotN) : ltOf ordD x y = lessD x y := ord_neg x y
theorem swoD : SWO (ltOf ordD) where
  irrefl x := by rw [ord_less, lessD_irrefl]
  trans x y z h1 h2 := by rw [ord_less] at *; exact lessD_trans h1 h2
  ntrans x y z h1 h2 := by rw [ord_less] at *; exact lessD_ntrans h1 h2
end Go.Proofs.YtaodjnkjjmhecaaGreatDoor
namespace Go.Proofs.YtaodjnkjjmhecaaGreatDoor
open Go.RowKit
set_option linter.unusedVariables false
def NumsIs (w : World) (mv : Option Nat) (F : Nat → Prop) (l : List DotN) : Prop :=
  (mv = none ∧ l = []) ∨ ∃ B n D, mv = some B ∧ F B ∧ w.ownsMap Tryz.prog 33 (plainElem Tryz.prog 3) B n D ∧ VecD D l
theorem NumsIs.keeps {F G : Nat → Prop} {w w' : World} {mv : Option Nat} {l : List DotN} (h : NumsIs w mv F l) (hk : Keeps G w w') (hd : ∀ k, F k → ¬ G k) : NumsIs w' mv F l := by
  rcases h with h | ⟨B, n, D, rfl, hB, hm, hD⟩
  · exact .inl h
  · exact .inr ⟨B, n, D, rfl, hB, hk.grownBy (hd B hB) hm, hD⟩
structure ArgV (w : World) (v : Value) (mv : Option Nat) (F : Nat → Prop) (l : List DotN) : Prop where
  ptr : (v = .pointer none ∧ mv = none) ∨ ∃ p k vs, v = .pointer (some ⟨p, k, none⟩) ∧ F p ∧ ObjAt w p vs ∧ vs[k]? = some (.map mv)
  nums : NumsIs w mv F l
  ok : OkV l
  lt : ∀ k, F k → k < w.heap.size
theorem ArgV.keeps {F G : Nat → Prop} {w w' : World} {v : Value} {mv : Option Nat} {l : List DotN} (h : ArgV w v mv F l) (hk : Keeps G w w') (hd : ∀ k, F k → ¬ G k) : ArgV w' v mv F l := by
  obtain ⟨h1, h2, h3, h4⟩ := h
  refine ⟨?_, h2.keeps hk hd, h3, fun k hF => Nat.lt_of_lt_of_le (h4 k hF) hk.size⟩
  rcases h1 with h1 | ⟨p, k, vs, rfl, hp, ho, hv⟩
  · exact .inl h1
  · exact .inr ⟨p, k, vs, rfl, hp, ho.keeps hk (hd p hp), hv⟩
theorem ArgV.below {F : Nat → Prop} {w w' : World} {v : Value} {mv : Option Nat} {l : List DotN} (h : ArgV w v mv F l) (hb : Below w.heap.size w w') : ArgV w' v mv F l :=
  h.keeps (Keeps.new (F := fun _ => False) hb) fun _ _ h => h
theorem vAllC {v : Value} {mv : Option Nat} {F : Nat → Prop} {l : List DotN} {w : World} (h : ArgV w v mv F l) :
    Calls Tryz.prog 113 #[v] w fun e w' => e = .returned (.map mv) ∧ w = w' := by
  rcases h.ptr with ⟨rfl, rfl⟩ | ⟨p, k, vs, rfl, _, ho, hv⟩
  · go_enter Tryz.func113, Tryz.ntmps113
    go_wp2
    go_ret
    exact ⟨rfl, rfl⟩
  · have c0 := ho.cell k hv
    clear h ho hv
    go_enter Tryz.func113, Tryz.ntmps113
    go_wp2
    go_ret
    exact ⟨rfl, rfl⟩
theorem vGetA {v : Value} {mv : Option Nat} {F : Nat → Prop} {l : List DotN} {w : World} (h : ArgV w v mv F l) (d i : Int) (hd : is64 d) (hi : is64 i) :
    Calls Tryz.prog 68 #[v, .agg #[.int .i64 d, .int .i64 i]] w fun e w' => e = .returned (.int .i64 (getV l d i)) ∧ Below w.heap.size w w' := by
  have o1 := ObjAt.new w #[.int .i64 d, .int .i64 i] 33
  have hb := below_alloc w (.cells #[.int .i64 d, .int .i64 i] 33)
  have u0 := o1.cell 0 rfl; have u1 := o1.cell 1 rfl
  have h1 := h.below hb
  have hlk : ∀ ww : World, ww.heap = (w.alloc (.cells #[.int .i64 d, .int .i64 i] 33)).heap → (Instr.lookup 99 (.map mv) (.agg #[.int .i64 d, .int .i64 i]) false).run Tryz.prog ww = .ok (.int .i64 (getV l d i)) ww := fun ww he => by
    rcases h1.nums with ⟨rfl, rfl⟩ | ⟨B, n, D, rfl, hB, hm, hD⟩
    · exact Go.Maps.look_nil false keyedActor Tryz.underlying99 (zeroInt _) (key_actor hd hi)
    · have hm2 : ww.ownsMap Tryz.prog 33 (plainElem Tryz.prog 3) B n D := by
        unfold World.ownsMap at hm ⊢
        rw [he]
        exact hm
      obtain ⟨c, hrun, hat, _⟩ := hm2.lookup_int keyedActor Tryz.underlying99 Tryz.underlying3 (zeroInt _) (key_actor hd hi)
      rw [(show NumAt D (keyA d i) c from hat).one (hD.num d i hd hi)] at hrun
      exact hrun
  have HA := vAllC (h1.keeps (w' := (w.alloc (.cells #[.int .i64 d, .int .i64 i] 33)).drew) (Keeps.new (F := fun _ => False) (Below.refl _ _).drew) (fun _ _ h => h))
  have hl1 := hlk _ rfl
  have hl2 := hlk (w.alloc (.cells #[.int .i64 d, .int .i64 i] 33)).drew rfl
  clear hlk h h1 o1
  go_enter Tryz.func68, Tryz.ntmps68
  go_wp2_with fail
  go_region_law ((try go_simp); go_at_call 113; (refine HA.mono ?_); rintro e w1 ⟨rfl, rfl⟩)
  all_goals (
    go_wp2
    go_ret
    exact ⟨rfl, hb.drew⟩)
theorem NumsIs.mono {F G : Nat → Prop} {w : World} {mv : Option Nat} {l : List DotN} (h : NumsIs w mv F l) (hs : ∀ b, F b → G b) : NumsIs w mv G l := by
  rcases h with h | ⟨B, n, D, rfl, hB, hm, hD⟩
  · exact .inl h
  · exact .inr ⟨B, n, D, rfl, hs B hB, hm, hD⟩
theorem NumsIs.lt {F : Nat → Prop} {w : World} {mv : Option Nat} {l : List DotN} (h : NumsIs w mv F l) : ∀ b, mv = some b → b < w.heap.size := by
  intro b e
  rcases h with ⟨rfl, _⟩ | ⟨B, n, D, rfl, hB, hm, hD⟩
  · cases e
  · cases e
    exact hm.lt
theorem obj_not_map {w : World} {p B : Nat} {vs : List Value} (h : ObjAt w p vs) {H : Type} {P : Program} {k : TypeId} {R : Value → Option (DataW H × List MemPlace)} {n : Nat} {D : DataW H} (hm : w.ownsMap P k R B n D) : B ≠ p := by
  rintro rfl
  obtain ⟨e, h1⟩ := h.heap
  obtain ⟨es, clock, h2, _⟩ := hm
  rw [h1] at h2
  cases h2
structure VecIn (w : World) (p k : Nat) (vs : List Value) (mv : Option Nat) (l : List DotN) : Prop where
  obj : ObjAt w p vs
  here : vs[k]? = some (.map mv)
  nums : NumsIs w mv (fun b => mv = some b) l
  ok : OkV l
theorem VecIn.not_obj {w : World} {p k : Nat} {vs : List Value} {mv : Option Nat} {l : List DotN} (h : VecIn w p k vs mv l) : mv ≠ some p := by
  rintro rfl
  rcases h.nums with ⟨c, _⟩ | ⟨B, n, D, e, hB, hm, hD⟩
  · cases c
  · cases e
    exact obj_not_map h.obj hm rfl
theorem VecIn.keeps {G : Nat → Prop} {w w' : World} {p k : Nat} {vs : List Value} {mv : Option Nat} {l : List DotN} (h : VecIn w p k vs mv l) (hk : Keeps G w w') (hp : ¬ G p) (hd : ∀ b, mv = some b → ¬ G b) : VecIn w' p k vs mv l :=
  ⟨h.obj.keeps hk hp, h.here, h.nums.keeps hk hd, h.ok⟩
theorem VecIn.below {w w' : World} {p k : Nat} {vs : List Value} {mv : Option Nat} {l : List DotN} (h : VecIn w p k vs mv l) (hb : Below w.heap.size w w') : VecIn w' p k vs mv l :=
  h.keeps (Keeps.new (F := fun _ => False) hb) (fun h => h) (fun _ _ h => h)
theorem VecIn.lt {w : World} {p k : Nat} {vs : List Value} {mv : Option Nat} {l : List DotN} (h : VecIn w p k vs mv l) : ∀ b, b = p ∨ mv = some b → b < w.heap.size := by
  rintro b (rfl | e)
  · exact h.obj.lt
  · exact h.nums.lt b e
theorem VecIn.arg {w : World} {p k : Nat} {vs : List Value} {mv : Option Nat} {l : List DotN} (h : VecIn w p k vs mv l) : ArgV w (.pointer (some ⟨p, k, none⟩)) mv (fun b => b = p ∨ mv = some b) l :=
  ⟨.inr ⟨p, k, vs, rfl, .inl rfl, h.obj, h.here⟩, h.nums.mono fun _ e => .inr e, h.ok, h.lt⟩
theorem set_as {α : Type} {l : List α} {k : Nat} {v : α} (h : l[k]? = some v) : l.set k v = l := by
  apply List.ext_getElem?
  intro i
  by_cases e : k = i
  · subst e
    rw [List.getElem?_set_self (List.getElem?_eq_some_iff.1 h).1, h]
  · rw [List.getElem?_set_ne e]
def RaisedI (p k : Nat) (vs : List Value) (mv : Option Nat) (l : List DotN) (v : Value) (w : World) (e : Ending) (w' : World) : Prop :=
  e = .returned v ∧ ∃ mv', VecIn w' p k (vs.set k (.map mv')) mv' l ∧ Keeps (fun b => b = p ∨ mv = some b) w w' ∧ (mv' = mv ∨ ∃ B, mv' = some B ∧ w.heap.size ≤ B)
theorem RaisedI.same {p k : Nat} {vs : List Value} {mv : Option Nat} {l : List DotN} {v : Value} {w w' : World} (h : VecIn w p k vs mv l) (hb : Below w.heap.size w w') : RaisedI p k vs mv l v w (.returned v) w' :=
  ⟨rfl, mv, by rw [set_as h.here]; exact h.below hb, Keeps.new hb, .inl rfl⟩
theorem ownsMap_tight {H : Type} {P : Program} {k : TypeId} {R : Value → Option (DataW H × List MemPlace)} {w : World} {b n : Nat} {D : DataW H} (h : w.ownsMap P k R b n D) : w.ownsMap P k R b (Go.Maps.size D) D := by
  obtain ⟨es, clock, hb, F, hs, rfl⟩ := h
  exact ⟨es, clock, hb, F, Nat.le_of_eq (by rw [Go.Maps.size_eq, length_read]), rfl⟩
set_option maxRecDepth 100000 in
theorem vRaiseI (p k : Nat) (vs : List Value) (mv : Option Nat) (l : List DotN) (x : DotN) (w : World) (h : VecIn w p k vs mv l) (hx : FitD x) :
    Calls Tryz.prog 114 #[.pointer (some ⟨p, k, none⟩), .agg #[.int .i64 x.dev, .int .i64 x.inc], .int .i64 x.seq] w (RaisedI p k vs mv (raiseV l x).1 (.bool (raiseV l x).2) w) := by
  have ha := h.arg
  have hE := fun v ww (hb : Below w.heap.size w ww) => RaisedI.same (v := v) h hb
  have h6 := h.not_obj
  obtain ⟨h4, hk, h5, h3⟩ := h
  have hk9 := (List.getElem?_eq_some_iff.1 hk).1
  have hput := fun D (hD : VecD D l) hT (hr : rightD x = true) => hD.put hT h3 hr
  have hok := fun (hr : rightD x = true) => set_ok h3 hr
  have hmost := h3.most
  have hwf := is64_wf.1 hx.seq
  have hpl := h4.lt
  obtain ⟨dev, inc, seq⟩ := x
  obtain ⟨f1, f2, f3⟩ := hx
  dsimp only at *
  have hkey := key_actor f1 f2
  have o1 := ObjAt.new w #[.int .i64 dev, .int .i64 inc] 33
  have hb := below_alloc w (.cells #[.int .i64 dev, .int .i64 inc] 33)
  have u0 := o1.cell 0 rfl; have u1 := o1.cell 1 rfl
  have HR := fun v => dotRightC0 ⟨dev, inc, seq⟩ v
  have HG := fun v (hv : ArgV v (.pointer (some ⟨p, k, none⟩)) mv (fun b => b = p ∨ mv = some b) l) => vGetA hv dev inc f1 f2
  have ha1 := ha.below hb
  have q1 := h4.below hb hpl
  clear ha h4 f1 f2 f3
  unfold raiseV
  dsimp only
  cases hr : rightD ⟨dev, inc, seq⟩ with
  | false =>
    rw [hr] at HR
    rw [if_neg (fun c => absurd c.1 Bool.false_ne_true)]
    clear hr hput hok
    go_enter Tryz.func114, Tryz.ntmps114
    go_wp2_with (go_at_call 109; (with_reducible refine (HR _).mono ?_); rintro e w1 ⟨rfl, hx⟩; have hb := hb.trans (hx.mono hb.size))
    go_ret
    exact hE _ _ hb
  | true =>
    rw [hr] at HR
    have hput := fun D hD hT => hput D hD hT hr
    have hok := hok hr
    by_cases hc : getV l dev inc < seq
    · rw [if_pos ⟨rfl, hc⟩]
      have d1 : decide (seq ≤ getV l dev inc) = false := decide_eq_false (by omega)
      generalize setV l ⟨dev, inc, seq⟩ = l2 at *
      generalize getV l dev inc = G at *
      clear hc hr hE
      rcases h5 with ⟨rfl, rfl⟩ | ⟨B, n, D, rfl, hB, hm, hD⟩
      · have hmm := @run_makeMap Tryz.prog
        have kn := fun w r => Go.run_eql_map_nil (P := Tryz.prog) w 99 33 3 r Tryz.underlying99
        go_enter Tryz.func114, Tryz.ntmps114
        go_wp2_with (first
          | (go_at_call 109; (with_reducible refine (HR _).mono ?_); rintro e w2 ⟨rfl, hx⟩; have o2 := o1.below hx o1.lt; have ha2 := ha1.below hx; have q2 := q1.below hx q1.lt; have v0 := o2.cell 0 rfl; have v1 := o2.cell 1 rfl; have hb := hb.trans (hx.mono hb.size); clear hx)
          | (go_at_call 68; (with_reducible refine (HG _ ha2).mono ?_); rintro e w3 ⟨rfl, hx⟩; have o3 := o2.below hx o2.lt; have q3 := q2.below hx q2.lt; have x0 := o3.cell 0 rfl; have x1 := o3.cell 1 rfl; have y0 := q3.cell k hk; have b4 := below_alloc w3 (.map #[] 0); have q4 := q3.below b4 q3.lt; have y4 := q4.cell k hk; have g4 := q4.free k; have hb := hb.trans (hx.mono hb.size); clear hx))
        have q5 := q4.set k (.map (some w3.heap.size))
        have o5 := (o3.below b4 o3.lt).other (p := ⟨p, k, none⟩) (by show p ≠ w.heap.size; omega) (.map (some w3.heap.size))
        have hm5 := (World.ownsMap_made (H := Unit) w3 Tryz.prog 33 (plainElem Tryz.prog 3)).setCell (a := ⟨p, k, none⟩) (fun e => by have := q3.lt; have e2 : w3.heap.size = p := e; omega) (.map (some w3.heap.size))
        have k5 : Keeps (fun b => b = p ∨ (none : Option Nat) = some b) w ((w3.alloc (.map #[] 0)).setCell ⟨p, k, none⟩ (.map (some w3.heap.size))) := (Keeps.new (hb.trans (b4.mono hb.size))).setCell (.inl rfl) _
        have hs := hb.size
        generalize (w3.alloc (.map #[] 0)).setCell ⟨p, k, none⟩ (.map (some w3.heap.size)) = w5 at *
        have c0 := q5.cell k (List.getElem?_set_self hk9)
        have d0 := o5.cell 0 rfl; have d1' := o5.cell 1 rfl
        obtain ⟨w6, hrun, hm6, hg6⟩ := hm5.drew.update keyedActor Tryz.underlying99 (by unfold maxLen; omega) hkey (plainElem_int Tryz.underlying3 hwf)
        go_region
        all_goals (
          go_wp2
          go_ret)
        have kd : Keeps (fun b => b = p ∨ (none : Option Nat) = some b) w5 w5.drew := Keeps.new (Below.refl _ _).drew
        have k6 := Keeps.ofGrownBy hg6
        have hB6 := hm6.lt
        refine ⟨rfl, some w3.heap.size, ⟨(q5.drew).keeps k6 (fun e => by have := Option.some.inj e; omega), List.getElem?_set_self hk9, .inr ⟨_, _, _, rfl, rfl, hm6, hput _ VecD.empty ⟨[], rfl, List.Pairwise.nil⟩⟩, hok⟩, ?_, .inr ⟨_, rfl, by omega⟩⟩
        exact (k5.trans kd (fun _ _ h => h)).trans k6 (fun k hk e => by have := Option.some.inj e; omega)
      · have hne := obj_not_map q1 (hm.alloc _)
        have kn := fun w r => Go.run_eql_map_nil (P := Tryz.prog) w 99 33 3 r Tryz.underlying99
        have hsz := hD.size
        have hT := hm.tidy keyedActor
        have hm0 := ownsMap_tight hm
        go_enter Tryz.func114, Tryz.ntmps114
        go_wp2_with (first
          | (go_at_call 109; (with_reducible refine (HR _).mono ?_); rintro e w2 ⟨rfl, hx⟩; have o2 := o1.below hx o1.lt; have ha2 := ha1.below hx; have q2 := q1.below hx q1.lt; have v0 := o2.cell 0 rfl; have v1 := o2.cell 1 rfl; have hb := hb.trans (hx.mono hb.size); clear hx)
          | (go_at_call 68; (with_reducible refine (HG _ ha2).mono ?_); rintro e w3 ⟨rfl, hx⟩; have o3 := o2.below hx o2.lt; have q3 := q2.below hx q2.lt; have x0 := o3.cell 0 rfl; have x1 := o3.cell 1 rfl; have y0 := q3.cell k hk; have hb := hb.trans (hx.mono hb.size); clear hx))
        have k5 : Keeps (fun b => b = p ∨ some B = some b) w w3 := Keeps.new hb
        have hm5 := (Keeps.new (F := fun _ => False) hb).grownBy (b := B) (fun h => h) hm0
        obtain ⟨w6, hrun, hm6, hg6⟩ := hm5.drew.update keyedActor Tryz.underlying99 (by unfold maxLen; omega) hkey (plainElem_int Tryz.underlying3 hwf)
        go_region
        all_goals (
          go_wp2
          go_ret)
        have kd : Keeps (fun b => b = p ∨ some B = some b) w3 w3.drew := Keeps.new (Below.refl _ _).drew
        have k6 := Keeps.ofGrownBy hg6
        refine ⟨rfl, some B, ⟨by rw [set_as hk]; exact (q3.drew).keeps k6 (fun e => hne (Option.some.inj e)), by rw [set_as hk]; exact hk, .inr ⟨_, _, _, rfl, rfl, hm6, hput _ hD hT⟩, hok⟩, ?_, .inl rfl⟩
        exact (k5.trans kd (fun _ _ h => h)).trans k6 (fun b hb e => .inr e)
    · rw [if_neg (fun c => hc c.2)]
      have d1 : decide (seq ≤ getV l dev inc) = true := decide_eq_true (by omega)
      generalize getV l dev inc = G at *
      clear hc hput hok hr
      go_enter Tryz.func114, Tryz.ntmps114
      go_wp2_with (first
        | (go_at_call 109; (with_reducible refine (HR _).mono ?_); rintro e w2 ⟨rfl, hx⟩; have o2 := o1.below hx o1.lt; have ha2 := ha1.below hx; have v0 := o2.cell 0 rfl; have v1 := o2.cell 1 rfl; have hb := hb.trans (hx.mono hb.size); clear hx)
        | (go_at_call 68; (with_reducible refine (HG _ ha2).mono ?_); rintro e w3 ⟨rfl, hx⟩; have hb := hb.trans (hx.mono hb.size); clear hx))
      go_ret
      exact hE _ _ hb
end Go.Proofs.YtaodjnkjjmhecaaGreatDoor
namespace Go.Proofs.YtaodjnkjjmhecaaGreatDoor
open Go.RowKit
set_option linter.unusedVariables false
set_option linter.unusedSimpArgs false
set_option maxRecDepth 100000 in
theorem vHasA {v : Value} {mv : Option Nat} {F : Nat → Prop} {l : List DotN} {w : World} (ha : ArgV w v mv F l) (x : DotN) (hx : FitD x) :
    Calls Tryz.prog 85 #[v, .agg #[.int .i64 x.dev, .int .i64 x.inc, .int .i64 x.seq]] w fun e w' => e = .returned (.bool (hasV l x)) ∧ Below w.heap.size w w' := by
  have HR := fun v => dotRightC0 x v
  have HG := fun ww (hv : ArgV ww v mv F l) => vGetA hv x.dev x.inc hx.dev hx.inc
  unfold hasV
  obtain ⟨dev, inc, seq⟩ := x
  dsimp only at *
  have o1 := ObjAt.new w #[.int .i64 dev, .int .i64 inc, .int .i64 seq] 35
  have b1 := below_alloc w (.cells #[.int .i64 dev, .int .i64 inc, .int .i64 seq] 35)
  have ha1 := ha.below b1
  generalize hw1 : w.alloc (.cells #[.int .i64 dev, .int .i64 inc, .int .i64 seq] 35) = w1 at *
  have v0 := o1.cell 0 rfl; have v1 := o1.cell 1 rfl; have v2 := o1.cell 2 rfl
  have hS0 : ∀ w', Below w1.heap.size w1 w' → w'.cell? ⟨w.heap.size, 0, none⟩ = some (.int .i64 dev) ∧ w'.cell? ⟨w.heap.size, 1, none⟩ = some (.int .i64 inc) ∧ w'.cell? ⟨w.heap.size, 2, none⟩ = some (.int .i64 seq) := fun w' h => ⟨(o1.below h o1.lt).cell 0 rfl, (o1.below h o1.lt).cell 1 rfl, (o1.below h o1.lt).cell 2 rfl⟩
  have hB1 : Below w1.heap.size w1 w1.drew := (Below.refl _ w1).drew
  generalize getV l dev inc = G at *
  clear ha hx v0 v1 v2
  cases hr : rightD ⟨dev, inc, seq⟩ with
  | false =>
    rw [hr] at HR
    clear hr
    go_enter Tryz.func85, Tryz.ntmps85
    go_wp2_with fail
    refine wp_region_held_drew (S := fun w' => w'.cell? ⟨w.heap.size, 0, none⟩ = some (.int .i64 dev) ∧ w'.cell? ⟨w.heap.size, 1, none⟩ = some (.int .i64 inc) ∧ w'.cell? ⟨w.heap.size, 2, none⟩ = some (.int .i64 seq)) (by kernel_rfl) (hS0 _ hB1) (fun hHeld => ?_)
    first | (refine tR (i := 0) rfl rfl ?_) | (refine tL (i := 0) (v := ?vhax0) rfl ?hyhax0 ?rhax0; case hyhax0 => (rintro w' ⟨hs0, hs1, hs2⟩; go_simp; try with_reducible rfl))
    try simp only [gA, gB, Act.put, gD, gE, gF]
    refine wpAnyH_ready (rs := [1]) (by kernel_rfl) (by simp) ?_
    refine AllReadyH.cons (o := _) rfl (fun K hK => ?_) AllReadyH.nil
    go_simp
    go_at_call 109; (with_reducible refine (HR _).mono ?_); rintro e w2 ⟨rfl, hx⟩; have hB1 := hB1.trans (hx.mono hB1.size); clear hx
    dsimp only
    refine hK.out _ _ (hS0 _ hB1) (fun hHeld => ?_)
    clear hK K
    try simp only [gA, gB, gC, Act.put, gD, gE, gF]
    first | (refine tR (i := 2) rfl rfl ?_) | (refine tL (i := 2) (v := ?vhax2) rfl ?hyhax2 ?rhax2; case hyhax2 => (rintro w' ⟨hs0, hs1, hs2⟩; go_simp; try with_reducible rfl))
    try simp only [gA, gB, gC, Act.put, gD, gE, gF]
    first | (refine tR (i := 3) rfl rfl ?_) | (refine tL (i := 3) (v := ?vhax3) rfl ?hyhax3 ?rhax3; case hyhax3 => (rintro w' ⟨hs0, hs1, hs2⟩; go_simp; try with_reducible rfl))
    try simp only [gA, gB, gC, Act.put, gD, gE, gF]
    first | (refine tR (i := 4) rfl rfl ?_) | (refine tL (i := 4) (v := ?vhax4) rfl ?hyhax4 ?rhax4; case hyhax4 => (rintro w' ⟨hs0, hs1, hs2⟩; go_simp; try with_reducible rfl))
    try simp only [gA, gB, gC, Act.put, gD, gE, gF]
    first | (refine tR (i := 5) rfl rfl ?_) | (refine tL (i := 5) (v := ?vhax5) rfl ?hyhax5 ?rhax5; case hyhax5 => (rintro w' ⟨hs0, hs1, hs2⟩; go_simp; try with_reducible rfl))
    try simp only [gA, gB, gC, Act.put, gD, gE, gF]
    first | (refine tR (i := 6) rfl rfl ?_) | (refine tL (i := 6) (v := ?vhax6) rfl ?hyhax6 ?rhax6; case hyhax6 => (rintro w' ⟨hs0, hs1, hs2⟩; go_simp; try with_reducible rfl))
    try simp only [gA, gB, gC, Act.put, gD, gE, gF]
    first | (refine tR (i := 7) rfl rfl ?_) | (refine tL (i := 7) (v := ?vhax7) rfl ?hyhax7 ?rhax7; case hyhax7 => (rintro w' ⟨hs0, hs1, hs2⟩; go_simp; try with_reducible rfl))
    try simp only [gA, gB, gC, Act.put, gD, gE, gF]
    first | (refine tR (i := 8) rfl rfl ?_) | (refine tL (i := 8) (v := ?vhax8) rfl ?hyhax8 ?rhax8; case hyhax8 => (rintro w' ⟨hs0, hs1, hs2⟩; go_simp; try with_reducible rfl))
    try simp only [gA, gB, gC, Act.put, gD, gE, gF]
    first | (refine tR (i := 9) rfl rfl ?_) | (refine tL (i := 9) (v := ?vhax9) rfl ?hyhax9 ?rhax9; case hyhax9 => (rintro w' ⟨hs0, hs1, hs2⟩; go_simp; try with_reducible rfl))
    try simp only [gA, gB, gC, Act.put, gD, gE, gF]
    first | (refine tR (i := 10) rfl rfl ?_) | (refine tL (i := 10) (v := ?vhax10) rfl ?hyhax10 ?rhax10; case hyhax10 => (rintro w' ⟨hs0, hs1, hs2⟩; go_simp; try with_reducible rfl))
    try simp only [gA, gB, gC, Act.put, gD, gE, gF]
    first | (refine tR (i := 11) rfl rfl ?_) | (refine tL (i := 11) (v := ?vhax11) rfl ?hyhax11 ?rhax11; case hyhax11 => (rintro w' ⟨hs0, hs1, hs2⟩; go_simp; try with_reducible rfl))
    try simp only [gA, gB, gC, Act.put, gD, gE, gF]
    refine wpAnyH_done (by kernel_rfl) ?_ _
    go_wp2
    go_ret
    exact ⟨rfl, b1.trans (hB1.mono b1.size)⟩
  | true =>
    rw [hr] at HR
    clear hr
    have hd : decide (seq ≤ G) = decide (seq ≤ G) := rfl
    generalize hD : decide (seq ≤ G) = T at *
    clear hd
    go_enter Tryz.func85, Tryz.ntmps85
    go_wp2_with fail
    refine wp_region_held_drew (S := fun w' => w'.cell? ⟨w.heap.size, 0, none⟩ = some (.int .i64 dev) ∧ w'.cell? ⟨w.heap.size, 1, none⟩ = some (.int .i64 inc) ∧ w'.cell? ⟨w.heap.size, 2, none⟩ = some (.int .i64 seq)) (by kernel_rfl) (hS0 _ hB1) (fun hHeld => ?_)
    first | (refine tR (i := 0) rfl rfl ?_) | (refine tL (i := 0) (v := ?vhbx0) rfl ?hyhbx0 ?rhbx0; case hyhbx0 => (rintro w' ⟨hs0, hs1, hs2⟩; go_simp; try with_reducible rfl))
    try simp only [gA, gB, Act.put, gD, gE, gF]
    refine wpAnyH_ready (rs := [1]) (by kernel_rfl) (by simp) ?_
    refine AllReadyH.cons (o := _) rfl (fun K hK => ?_) AllReadyH.nil
    go_simp
    go_at_call 109; (with_reducible refine (HR _).mono ?_); rintro e w2 ⟨rfl, hx⟩; have hB1 := hB1.trans (hx.mono hB1.size); clear hx
    dsimp only
    refine hK.out _ _ (hS0 _ hB1) (fun hHeld => ?_)
    clear hK K
    try simp only [gA, gB, gC, Act.put, gD, gE, gF]
    first | (refine tR (i := 2) rfl rfl ?_) | (refine tL (i := 2) (v := ?vhbx2) rfl ?hyhbx2 ?rhbx2; case hyhbx2 => (rintro w' ⟨hs0, hs1, hs2⟩; go_simp; try with_reducible rfl))
    try simp only [gA, gB, gC, Act.put, gD, gE, gF]
    first | (refine tR (i := 3) rfl rfl ?_) | (refine tL (i := 3) (v := ?vhbx3) rfl ?hyhbx3 ?rhbx3; case hyhbx3 => (rintro w' ⟨hs0, hs1, hs2⟩; go_simp; try with_reducible rfl))
    try simp only [gA, gB, gC, Act.put, gD, gE, gF]
    first | (refine tR (i := 4) rfl rfl ?_) | (refine tL (i := 4) (v := ?vhbx4) rfl ?hyhbx4 ?rhbx4; case hyhbx4 => (rintro w' ⟨hs0, hs1, hs2⟩; go_simp; try with_reducible rfl))
    try simp only [gA, gB, gC, Act.put, gD, gE, gF]
    first | (refine tR (i := 5) rfl rfl ?_) | (refine tL (i := 5) (v := ?vhbx5) rfl ?hyhbx5 ?rhbx5; case hyhbx5 => (rintro w' ⟨hs0, hs1, hs2⟩; go_simp; try with_reducible rfl))
    try simp only [gA, gB, gC, Act.put, gD, gE, gF]
    first | (refine tR (i := 7) rfl rfl ?_) | (refine tL (i := 7) (v := ?vhbx7) rfl ?hyhbx7 ?rhbx7; case hyhbx7 => (rintro w' ⟨hs0, hs1, hs2⟩; go_simp; try with_reducible rfl))
    try simp only [gA, gB, gC, Act.put, gD, gE, gF]
    first | (refine tR (i := 8) rfl rfl ?_) | (refine tL (i := 8) (v := ?vhbx8) rfl ?hyhbx8 ?rhbx8; case hyhbx8 => (rintro w' ⟨hs0, hs1, hs2⟩; go_simp; try with_reducible rfl))
    try simp only [gA, gB, gC, Act.put, gD, gE, gF]
    refine wpAnyH_ready (rs := [6]) (by kernel_rfl) (by simp) ?_
    refine AllReadyH.cons (o := _) rfl (fun K hK => ?_) AllReadyH.nil
    go_simp
    go_at_call 68; (with_reducible refine (HG _ (ha1.below hB1)).mono ?_); rintro e w3 ⟨rfl, hx⟩; have hB1 := hB1.trans (hx.mono hB1.size); clear hx
    dsimp only
    refine hK.out _ _ (hS0 _ hB1) (fun hHeld => ?_)
    clear hK K
    try simp only [gA, gB, gC, Act.put, gD, gE, gF]
    first | (refine tR (i := 9) rfl rfl ?_) | (refine tL (i := 9) (v := ?vhbx9) rfl ?hyhbx9 ?rhbx9; case hyhbx9 => (rintro w' ⟨hs0, hs1, hs2⟩; go_simp; try with_reducible rfl))
    try simp only [gA, gB, gC, Act.put, gD, gE, gF]
    first | (refine tR (i := 10) rfl rfl ?_) | (refine tL (i := 10) (v := ?vhbx10) rfl ?hyhbx10 ?rhbx10; case hyhbx10 => (rintro w' ⟨hs0, hs1, hs2⟩; go_simp; try with_reducible rfl))
    try simp only [gA, gB, gC, Act.put, gD, gE, gF]
    first | (refine tR (i := 11) rfl rfl ?_) | (refine tL (i := 11) (v := ?vhbx11) rfl ?hyhbx11 ?rhbx11; case hyhbx11 => (rintro w' ⟨hs0, hs1, hs2⟩; go_simp; try with_reducible rfl))
    try simp only [gA, gB, gC, Act.put, gD, gE, gF]
    refine wpAnyH_done (by kernel_rfl) ?_ _
    go_wp2
    go_ret
    exact ⟨rfl, b1.trans (hB1.mono b1.size)⟩
theorem take_is {l : List DotN} {x : DotN} (h : getV l x.dev x.inc + 1 = x.seq) : takeV l x = raiseV l x := by
  unfold takeV raiseV
  by_cases c : rightD x = true
  · rw [if_pos ⟨c, h⟩, if_pos ⟨c, by omega⟩]
  · rw [if_neg (fun q => c q.1), if_neg (fun q => c q.1)]
theorem take_not {l : List DotN} {x : DotN} (h : ¬ getV l x.dev x.inc + 1 = x.seq) : takeV l x = (l, false) := by
  unfold takeV
  rw [if_neg (fun q => h q.2)]
set_option maxRecDepth 100000 in
theorem vTakeI (p k : Nat) (vs : List Value) (mv : Option Nat) (l : List DotN) (x : DotN) (w : World) (h : VecIn w p k vs mv l) (hx : FitD x) :
    Calls Tryz.prog 69 #[.pointer (some ⟨p, k, none⟩), .agg #[.int .i64 x.dev, .int .i64 x.inc, .int .i64 x.seq]] w (RaisedI p k vs mv (takeV l x).1 (.bool (takeV l x).2) w) := by
  have ha := h.arg
  obtain ⟨F, hF⟩ : ∃ F : Nat → Prop, (fun b => b = p ∨ mv = some b) = F := ⟨_, rfl⟩
  rw [hF] at ha
  have HG := fun ww (hv : ArgV ww (.pointer (some ⟨p, k, none⟩)) mv F l) => vGetA hv x.dev x.inc hx.dev hx.inc
  have HR := fun ww (hv : VecIn ww p k vs mv l) => vRaiseI p k vs mv l x ww hv hx
  have hrg := getV_range h.ok x.dev x.inc
  have hq1 : IntKind.i64.wrap (getV l x.dev x.inc + 1) = getV l x.dev x.inc + 1 := by rw [IntKind.wrap_i64]; omega
  have hlt : ∀ b, F b → b < w.heap.size := by rw [← hF]; exact h.lt
  have ht := take_is (l := l) (x := x)
  have hn := take_not (l := l) (x := x)
  unfold RaisedI at HR ⊢
  rw [hF] at HR ⊢
  obtain ⟨dev, inc, seq⟩ := x
  dsimp only at *
  have o1 := ObjAt.new w #[.int .i64 dev, .int .i64 inc, .int .i64 seq] 35
  have b1 := below_alloc w (.cells #[.int .i64 dev, .int .i64 inc, .int .i64 seq] 35)
  have ha1 := ha.below b1
  generalize hw1 : w.alloc (.cells #[.int .i64 dev, .int .i64 inc, .int .i64 seq] 35) = w1 at *
  have v0 := o1.cell 0 rfl; have v1 := o1.cell 1 rfl; have v2 := o1.cell 2 rfl
  have hv1 : VecIn w1 p k vs mv l := h.below b1
  have hnF : ¬ F w.heap.size := fun c => absurd (hlt _ c) (Nat.lt_irrefl _)
  generalize raiseV l ⟨dev, inc, seq⟩ = r at *
  generalize hTK : takeV l ⟨dev, inc, seq⟩ = t at *
  generalize getV l dev inc = G at *
  clear hrg hx v0 v1 v2
  by_cases hc : G + 1 = seq
  · have ht := ht hc
    clear hTK
    subst t
    have hd : (seq == G + 1) = true := beq_iff_eq.2 hc.symm
    have hd2 : seq = G + 1 := hc.symm
    obtain ⟨r1, r2⟩ := r
    dsimp only at *
    clear hn hc ha
    have hS0 : ∀ w', Keeps F w1 w' → w'.cell? ⟨w.heap.size, 0, none⟩ = some (.int .i64 dev) ∧ w'.cell? ⟨w.heap.size, 1, none⟩ = some (.int .i64 inc) ∧ w'.cell? ⟨w.heap.size, 2, none⟩ = some (.int .i64 seq) := fun w' h => ⟨(o1.keeps h hnF).cell 0 rfl, (o1.keeps h hnF).cell 1 rfl, (o1.keeps h hnF).cell 2 rfl⟩
    have hB1 : Below w1.heap.size w1 w1.drew := (Below.refl _ w1).drew
    have hK1 : Keeps F w1 w1.drew := Keeps.new hB1
    clear hd2
    go_enter Tryz.func69, Tryz.ntmps69
    go_wp2_with fail
    refine wp_region_held_drew (S := fun w' => w'.cell? ⟨w.heap.size, 0, none⟩ = some (.int .i64 dev) ∧ w'.cell? ⟨w.heap.size, 1, none⟩ = some (.int .i64 inc) ∧ w'.cell? ⟨w.heap.size, 2, none⟩ = some (.int .i64 seq)) (by kernel_rfl) (hS0 _ hK1) (fun hHeld => ?_)
    first | (refine tR (i := 0) rfl rfl ?_) | (refine tL (i := 0) (v := ?vtax0) rfl ?hytax0 ?rtax0; case hytax0 => (rintro w' ⟨hs0, hs1, hs2⟩; go_simp; try with_reducible rfl))
    try simp only [gA, gB, Act.put, gD, gE, gF]
    first | (refine tR (i := 1) rfl rfl ?_) | (refine tL (i := 1) (v := ?vtax1) rfl ?hytax1 ?rtax1; case hytax1 => (rintro w' ⟨hs0, hs1, hs2⟩; go_simp; try with_reducible rfl))
    try simp only [gA, gB, gC, Act.put, gD, gE, gF]
    first | (refine tR (i := 2) rfl rfl ?_) | (refine tL (i := 2) (v := ?vtax2) rfl ?hytax2 ?rtax2; case hytax2 => (rintro w' ⟨hs0, hs1, hs2⟩; go_simp; try with_reducible rfl))
    try simp only [gA, gB, gC, Act.put, gD, gE, gF]
    first | (refine tR (i := 3) rfl rfl ?_) | (refine tL (i := 3) (v := ?vtax3) rfl ?hytax3 ?rtax3; case hytax3 => (rintro w' ⟨hs0, hs1, hs2⟩; go_simp; try with_reducible rfl))
    try simp only [gA, gB, gC, Act.put, gD, gE, gF]
    first | (refine tR (i := 4) rfl rfl ?_) | (refine tL (i := 4) (v := ?vtax4) rfl ?hytax4 ?rtax4; case hytax4 => (rintro w' ⟨hs0, hs1, hs2⟩; go_simp; try with_reducible rfl))
    try simp only [gA, gB, gC, Act.put, gD, gE, gF]
    refine wpAnyH_ready (rs := [5]) (by kernel_rfl) (by simp) ?_
    refine AllReadyH.cons (o := _) rfl (fun K hK => ?_) AllReadyH.nil
    go_simp
    go_at_call 68; (with_reducible refine (HG _ (ha1.below hB1)).mono ?_); rintro e w2 ⟨rfl, hx⟩; have hB2 := hB1.trans (hx.mono hB1.size); have hK1 : Keeps F w1 w2 := Keeps.new hB2; have hv2 : VecIn w2 p k vs mv l := hv1.below hB2; clear hx hB1
    dsimp only
    refine hK.out _ _ (hS0 _ hK1) (fun hHeld => ?_)
    clear hK K
    try simp only [gA, gB, gC, Act.put, gD, gE, gF]
    first | (refine tR (i := 6) rfl rfl ?_) | (refine tL (i := 6) (v := ?vtax6) rfl ?hytax6 ?rtax6; case hytax6 => (rintro w' ⟨hs0, hs1, hs2⟩; go_simp; try with_reducible rfl))
    try simp only [gA, gB, gC, Act.put, gD, gE, gF]
    first | (refine tR (i := 7) rfl rfl ?_) | (refine tL (i := 7) (v := ?vtax7) rfl ?hytax7 ?rtax7; case hytax7 => (rintro w' ⟨hs0, hs1, hs2⟩; go_simp; try with_reducible rfl))
    try simp only [gA, gB, gC, Act.put, gD, gE, gF]
    first | (refine tR (i := 8) rfl rfl ?_) | (refine tL (i := 8) (v := ?vtax8) rfl ?hytax8 ?rtax8; case hytax8 => (rintro w' ⟨hs0, hs1, hs2⟩; go_simp; try with_reducible rfl))
    try simp only [gA, gB, gC, Act.put, gD, gE, gF]
    first | (refine tR (i := 9) rfl rfl ?_) | (refine tL (i := 9) (v := ?vtax9) rfl ?hytax9 ?rtax9; case hytax9 => (rintro w' ⟨hs0, hs1, hs2⟩; go_simp; try with_reducible rfl))
    try simp only [gA, gB, gC, Act.put, gD, gE, gF]
    first | (refine tR (i := 10) rfl rfl ?_) | (refine tL (i := 10) (v := ?vtax10) rfl ?hytax10 ?rtax10; case hytax10 => (rintro w' ⟨hs0, hs1, hs2⟩; go_simp; try with_reducible rfl))
    try simp only [gA, gB, gC, Act.put, gD, gE, gF]
    first | (refine tR (i := 11) rfl rfl ?_) | (refine tL (i := 11) (v := ?vtax11) rfl ?hytax11 ?rtax11; case hytax11 => (rintro w' ⟨hs0, hs1, hs2⟩; go_simp; try with_reducible rfl))
    try simp only [gA, gB, gC, Act.put, gD, gE, gF]
    first | (refine tR (i := 12) rfl rfl ?_) | (refine tL (i := 12) (v := ?vtax12) rfl ?hytax12 ?rtax12; case hytax12 => (rintro w' ⟨hs0, hs1, hs2⟩; go_simp; try with_reducible rfl))
    try simp only [gA, gB, gC, Act.put, gD, gE, gF]
    first | (refine tR (i := 13) rfl rfl ?_) | (refine tL (i := 13) (v := ?vtax13) rfl ?hytax13 ?rtax13; case hytax13 => (rintro w' ⟨hs0, hs1, hs2⟩; go_simp; try with_reducible rfl))
    try simp only [gA, gB, gC, Act.put, gD, gE, gF]
    refine wpAnyH_ready (rs := [14]) (by kernel_rfl) (by simp) ?_
    refine AllReadyH.cons (o := _) rfl (fun K hK => ?_) AllReadyH.nil
    go_simp
    go_at_call 114; (with_reducible refine (HR _ hv2).mono ?_); rintro e w4 ⟨rfl, F4, hv4, hk4, hn4⟩; have hK1 := hK1.trans hk4 (fun _ _ h => h)
    dsimp only
    refine hK.out _ _ (hS0 _ hK1) (fun hHeld => ?_)
    clear hK K
    try simp only [gA, gB, gC, Act.put, gD, gE, gF]
    first | (refine tR (i := 15) rfl rfl ?_) | (refine tL (i := 15) (v := ?vtax15) rfl ?hytax15 ?rtax15; case hytax15 => (rintro w' ⟨hs0, hs1, hs2⟩; go_simp; try with_reducible rfl))
    try simp only [gA, gB, gC, Act.put, gD, gE, gF]
    first | (refine tR (i := 16) rfl rfl ?_) | (refine tL (i := 16) (v := ?vtax16) rfl ?hytax16 ?rtax16; case hytax16 => (rintro w' ⟨hs0, hs1, hs2⟩; go_simp; try with_reducible rfl))
    try simp only [gA, gB, gC, Act.put, gD, gE, gF]
    refine wpAnyH_done (by kernel_rfl) ?_ _
    go_wp2
    go_ret
    exact ⟨rfl, F4, hv4, ((Keeps.new (F := F) b1).trans hK1 (fun _ _ h => h)), hn4.imp id fun ⟨B, e, hB⟩ => ⟨B, e, Nat.le_trans (Nat.le_trans b1.size hB2.size) hB⟩⟩
  · have hn := hn hc
    clear hTK
    subst hn
    have hd : (seq == G + 1) = false := beq_eq_false_iff_ne.2 (fun c => hc c.symm)
    have hd2 : ¬ seq = G + 1 := fun c => hc c.symm
    have hS0 : ∀ w', Below w1.heap.size w1 w' → w'.cell? ⟨w.heap.size, 0, none⟩ = some (.int .i64 dev) ∧ w'.cell? ⟨w.heap.size, 1, none⟩ = some (.int .i64 inc) ∧ w'.cell? ⟨w.heap.size, 2, none⟩ = some (.int .i64 seq) := fun w' h => ⟨(o1.below h o1.lt).cell 0 rfl, (o1.below h o1.lt).cell 1 rfl, (o1.below h o1.lt).cell 2 rfl⟩
    have hB1 : Below w1.heap.size w1 w1.drew := (Below.refl _ w1).drew
    clear ht hc ha HR
    go_enter Tryz.func69, Tryz.ntmps69
    go_wp2_with fail
    refine wp_region_held_drew (S := fun w' => w'.cell? ⟨w.heap.size, 0, none⟩ = some (.int .i64 dev) ∧ w'.cell? ⟨w.heap.size, 1, none⟩ = some (.int .i64 inc) ∧ w'.cell? ⟨w.heap.size, 2, none⟩ = some (.int .i64 seq)) (by kernel_rfl) (hS0 _ hB1) (fun hHeld => ?_)
    first | (refine tR (i := 0) rfl rfl ?_) | (refine tL (i := 0) (v := ?vtbx0) rfl ?hytbx0 ?rtbx0; case hytbx0 => (rintro w' ⟨hs0, hs1, hs2⟩; go_simp; try with_reducible rfl))
    try simp only [gA, gB, Act.put, gD, gE, gF]
    first | (refine tR (i := 1) rfl rfl ?_) | (refine tL (i := 1) (v := ?vtbx1) rfl ?hytbx1 ?rtbx1; case hytbx1 => (rintro w' ⟨hs0, hs1, hs2⟩; go_simp; try with_reducible rfl))
    try simp only [gA, gB, gC, Act.put, gD, gE, gF]
    first | (refine tR (i := 2) rfl rfl ?_) | (refine tL (i := 2) (v := ?vtbx2) rfl ?hytbx2 ?rtbx2; case hytbx2 => (rintro w' ⟨hs0, hs1, hs2⟩; go_simp; try with_reducible rfl))
    try simp only [gA, gB, gC, Act.put, gD, gE, gF]
    first | (refine tR (i := 3) rfl rfl ?_) | (refine tL (i := 3) (v := ?vtbx3) rfl ?hytbx3 ?rtbx3; case hytbx3 => (rintro w' ⟨hs0, hs1, hs2⟩; go_simp; try with_reducible rfl))
    try simp only [gA, gB, gC, Act.put, gD, gE, gF]
    first | (refine tR (i := 4) rfl rfl ?_) | (refine tL (i := 4) (v := ?vtbx4) rfl ?hytbx4 ?rtbx4; case hytbx4 => (rintro w' ⟨hs0, hs1, hs2⟩; go_simp; try with_reducible rfl))
    try simp only [gA, gB, gC, Act.put, gD, gE, gF]
    refine wpAnyH_ready (rs := [5]) (by kernel_rfl) (by simp) ?_
    refine AllReadyH.cons (o := _) rfl (fun K hK => ?_) AllReadyH.nil
    go_simp
    go_at_call 68; (with_reducible refine (HG _ (ha1.below hB1)).mono ?_); rintro e w2 ⟨rfl, hx⟩; have hB1 := hB1.trans (hx.mono hB1.size); clear hx
    dsimp only
    refine hK.out _ _ (hS0 _ hB1) (fun hHeld => ?_)
    clear hK K
    try simp only [gA, gB, gC, Act.put, gD, gE, gF]
    first | (refine tR (i := 6) rfl rfl ?_) | (refine tL (i := 6) (v := ?vtbx6) rfl ?hytbx6 ?rtbx6; case hytbx6 => (rintro w' ⟨hs0, hs1, hs2⟩; go_simp; try with_reducible rfl))
    try simp only [gA, gB, gC, Act.put, gD, gE, gF]
    first | (refine tR (i := 7) rfl rfl ?_) | (refine tL (i := 7) (v := ?vtbx7) rfl ?hytbx7 ?rtbx7; case hytbx7 => (rintro w' ⟨hs0, hs1, hs2⟩; go_simp; try with_reducible rfl))
    try simp only [gA, gB, gC, Act.put, gD, gE, gF]
    first | (refine tR (i := 8) rfl rfl ?_) | (refine tL (i := 8) (v := ?vtbx8) rfl ?hytbx8 ?rtbx8; case hytbx8 => (rintro w' ⟨hs0, hs1, hs2⟩; go_simp; try with_reducible rfl))
    try simp only [gA, gB, gC, Act.put, gD, gE, gF]
    first | (refine tR (i := 9) rfl rfl ?_) | (refine tL (i := 9) (v := ?vtbx9) rfl ?hytbx9 ?rtbx9; case hytbx9 => (rintro w' ⟨hs0, hs1, hs2⟩; go_simp; try with_reducible rfl))
    try simp only [gA, gB, gC, Act.put, gD, gE, gF]
    first | (refine tR (i := 10) rfl rfl ?_) | (refine tL (i := 10) (v := ?vtbx10) rfl ?hytbx10 ?rtbx10; case hytbx10 => (rintro w' ⟨hs0, hs1, hs2⟩; go_simp; try with_reducible rfl))
    try simp only [gA, gB, gC, Act.put, gD, gE, gF]
    first | (refine tR (i := 11) rfl rfl ?_) | (refine tL (i := 11) (v := ?vtbx11) rfl ?hytbx11 ?rtbx11; case hytbx11 => (rintro w' ⟨hs0, hs1, hs2⟩; go_simp; try with_reducible rfl))
    try simp only [gA, gB, gC, Act.put, gD, gE, gF]
    first | (refine tR (i := 12) rfl rfl ?_) | (refine tL (i := 12) (v := ?vtbx12) rfl ?hytbx12 ?rtbx12; case hytbx12 => (rintro w' ⟨hs0, hs1, hs2⟩; go_simp; try with_reducible rfl))
    try simp only [gA, gB, gC, Act.put, gD, gE, gF]
    first | (refine tR (i := 13) rfl rfl ?_) | (refine tL (i := 13) (v := ?vtbx13) rfl ?hytbx13 ?rtbx13; case hytbx13 => (rintro w' ⟨hs0, hs1, hs2⟩; go_simp; try with_reducible rfl))
    try simp only [gA, gB, gC, Act.put, gD, gE, gF]
    first | (refine tR (i := 14) rfl rfl ?_) | (refine tL (i := 14) (v := ?vtbx14) rfl ?hytbx14 ?rtbx14; case hytbx14 => (rintro w' ⟨hs0, hs1, hs2⟩; go_simp; try with_reducible rfl))
    try simp only [gA, gB, gC, Act.put, gD, gE, gF]
    first | (refine tR (i := 15) rfl rfl ?_) | (refine tL (i := 15) (v := ?vtbx15) rfl ?hytbx15 ?rtbx15; case hytbx15 => (rintro w' ⟨hs0, hs1, hs2⟩; go_simp; try with_reducible rfl))
    try simp only [gA, gB, gC, Act.put, gD, gE, gF]
    first | (refine tR (i := 16) rfl rfl ?_) | (refine tL (i := 16) (v := ?vtbx16) rfl ?hytbx16 ?rtbx16; case hytbx16 => (rintro w' ⟨hs0, hs1, hs2⟩; go_simp; try with_reducible rfl))
    try simp only [gA, gB, gC, Act.put, gD, gE, gF]
    refine wpAnyH_done (by kernel_rfl) ?_ _
    go_wp2
    go_ret
    exact ⟨rfl, mv, by rw [set_as h.here]; exact h.below (b1.trans (hB1.mono b1.size)), Keeps.new (b1.trans (hB1.mono b1.size)), .inl rfl⟩
end Go.Proofs.YtaodjnkjjmhecaaGreatDoor
namespace Go.Proofs.YtaodjnkjjmhecaaGreatDoor
open Go.RowKit
set_option linter.unusedVariables false
inductive Slot where
  | ctx
  | kept
  | dead
  | keys
  | of (k : KeyT)
abbrev Slots := Slot → Option Nat
theorem slots_put (B : Slots) (i : Slot) (b : Option Nat) : ∃ B' : Slots, B' i = b ∧ ∀ j, j ≠ i → B' j = B j := by
  classical
  exact ⟨fun j => if j = i then b else B j, by simp, fun j h => by simp [h]⟩
def SetIs (w : World) (o : Option Nat) (E : List DotN) : Prop :=
  (o = none ∧ E = []) ∨ ∃ b n D, o = some b ∧ w.ownsMap Tryz.prog 35 unitElem b n D ∧ SetD D E
def KeptIs (w : World) (o : Option Nat) (rs : List EvR) : Prop :=
  (o = none ∧ rs = []) ∨ ∃ b n D, o = some b ∧ w.ownsMap Tryz.prog 35 heldElem b n D ∧ KeptD D rs
def fitK (k : KeyT) : Prop := k.1.length ≤ maxLen ∧ k.2.1.length ≤ maxLen ∧ k.2.2.length ≤ maxLen
def keyT (k : KeyT) : Lit := keyK k.1 k.2.1 k.2.2
theorem keyT_inj {a b : KeyT} (ha : fitK a) (hb : fitK b) (h : keyT a = keyT b) : a = b := by
  obtain ⟨h1, h2, h3⟩ := keyK_inj ha.1 ha.2.1 ha.2.2 hb.1 hb.2.1 hb.2.2 h
  exact Prod.ext h1 (Prod.ext h2 h3)
structure KeysD (D : DataW Value) (B : Slots) : Prop where
  at_ : ∀ k, fitK k → HeldAt D (keyT k) ((B (.of k)).map fun q => .map (some q))
  all : ∃ Ks : List KeyT, Ks.Nodup ∧ (∀ k, k ∈ Ks ↔ fitK k ∧ B (.of k) ≠ none) ∧ Go.Maps.size D = Ks.length
theorem KeysD.congr {D : DataW Value} {B B' : Slots} (h : KeysD D B) (hB : ∀ k, B' (.of k) = B (.of k)) : KeysD D B' := by
  refine ⟨fun k hk => by rw [hB]; exact h.at_ k hk, ?_⟩
  obtain ⟨Ks, h1, h2, h3⟩ := h.all
  exact ⟨Ks, h1, fun k => by rw [hB]; exact h2 k, h3⟩
theorem KeysD.empty {B : Slots} (h0 : ∀ k, B (.of k) = none) : KeysD (.map []) B :=
  ⟨fun k _ => by rw [h0]; exact HeldAt.empty _, [], List.nodup_nil, fun k => by rw [h0]; simp, rfl⟩
theorem key_lit {k : KeyT} (hk : fitK k) : WideAt.IsKeyLit (keyT k) := keyedKey.key (key_key hk.1 hk.2.1 hk.2.2)
theorem KeysD.put {D : DataW Value} {B B' : Slots} (h : KeysD D B) (hT : Go.Maps.Tidy D) {k : KeyT} (hk : fitK k) (b : Nat) (hb : B' (.of k) = some b) (ho : ∀ k', k' ≠ k → B' (.of k') = B (.of k')) : KeysD (D.put (keyT k) (.held (.map (some b)))) B' := by
  obtain ⟨Ks, h1, h2, h3⟩ := h.all
  refine ⟨fun k' hk' => ?_, ?_⟩
  · by_cases e : k' = k
    · subst e
      rw [hb]
      exact HeldAt.put hT.isMap (key_lit hk) _
    · rw [ho k' e]
      exact (h.at_ k' hk').other (fun c => e (keyT_inj hk' hk c)) _
  · have hh := (h.at_ k hk).has
    by_cases c : B (.of k) = none
    · refine ⟨k :: Ks, List.nodup_cons.2 ⟨fun m => ((h2 k).1 m).2 c, h1⟩, fun k' => ?_, ?_⟩
      · rw [List.mem_cons, h2]
        by_cases e : k' = k
        · subst e
          rw [hb]
          simp [hk]
        · rw [ho k' e]
          simp [e]
      · rw [c] at hh
        rw [Go.Maps.size_put hT, hh, if_neg (by simp), h3, List.length_cons]
    · refine ⟨Ks, h1, fun k' => ?_, ?_⟩
      · rw [h2]
        by_cases e : k' = k
        · subst e
          rw [hb]
          simp [hk, c]
        · rw [ho k' e]
      · have hs : ((B (.of k)).map fun q => Value.map (some q)).isSome = true := by
          cases q : B (.of k) with
          | none => exact absurd q c
          | some _ => rfl
        rw [hs] at hh
        rw [Go.Maps.size_put hT, hh, if_pos rfl, h3]
theorem KeysD.del {D : DataW Value} {B B' : Slots} (h : KeysD D B) (hT : Go.Maps.Tidy D) {k : KeyT} (hk : fitK k) (hb : B' (.of k) = none) (ho : ∀ k', k' ≠ k → B' (.of k') = B (.of k')) : KeysD (D.del (keyT k)) B' := by
  obtain ⟨Ks, h1, h2, h3⟩ := h.all
  refine ⟨fun k' hk' => ?_, ?_⟩
  · by_cases e : k' = k
    · subst e
      rw [hb]
      exact HeldAt.gone
    · rw [ho k' e]
      exact (h.at_ k' hk').but fun c => e (keyT_inj hk' hk c)
  · have hh := (h.at_ k hk).has
    have hsz := Go.Maps.size_del (k := keyT k) hT
    rw [hh, h3] at hsz
    refine ⟨Ks.erase k, h1.erase k, fun k' => ?_, ?_⟩
    · rw [h1.mem_erase_iff, h2]
      by_cases e : k' = k
      · subst e
        rw [hb]
        simp
      · rw [ho k' e]
        simp [e]
    · by_cases c : B (.of k) = none
      · rw [List.erase_of_not_mem (fun m => ((h2 k).1 m).2 c)]
        rw [c] at hsz
        simpa using hsz
      · have hm : k ∈ Ks := (h2 k).2 ⟨hk, c⟩
        have hs : ((B (.of k)).map fun q => Value.map (some q)).isSome = true := by
          cases q : B (.of k) with
          | none => exact absurd q c
          | some _ => rfl
        rw [hs, if_pos rfl] at hsz
        have := List.length_erase_of_mem hm
        omega
theorem nodup_most {α : Type} [BEq α] [LawfulBEq α] : ∀ {l m : List α}, l.Nodup → (∀ x ∈ l, x ∈ m) → l.length ≤ m.length
  | [], m, _, _ => Nat.zero_le _
  | a :: t, m, h, hs => by
    obtain ⟨h1, h2⟩ := List.nodup_cons.1 h
    have hm := hs a List.mem_cons_self
    have := nodup_most (m := m.erase a) h2 fun x hx => (List.mem_erase_of_ne (by rintro rfl; exact h1 hx)).2 (hs x (List.mem_cons_of_mem _ hx))
    have h3 := List.length_erase_of_mem hm
    have h4 := List.length_pos_of_mem hm
    rw [List.length_cons]
    omega
theorem KeysD.few {D : DataW Value} {B : Slots} {K : List EventN} {E : List DotN} (h : KeysD D B) (hn : ∀ k, dotsK K E k = [] → B (.of k) = none) : Go.Maps.size D ≤ K.length := by
  obtain ⟨Ks, h1, h2, h3⟩ := h.all
  have h5 : Ks.length ≤ (K.map fun e : EventN => kOf e.item).length := nodup_most h1 fun k hk => ?_
  · rw [List.length_map] at h5
    omega
  have h4 := ((h2 k).1 hk).2
  cases hd : dotsK K E k with
  | nil => exact absurd (hn k hd) h4
  | cons d t =>
    obtain ⟨e, he, -, -, hke⟩ := mem_dotsK.1 (hd ▸ List.mem_cons_self : d ∈ dotsK K E k)
    exact List.mem_map.2 ⟨e, he, hke⟩
def KeysIs (w : World) (o : Option Nat) (B : Slots) : Prop :=
  (o = none ∧ ∀ k, B (.of k) = none) ∨ ∃ b n D, o = some b ∧ w.ownsMap Tryz.prog 39 heldElem b n D ∧ KeysD D B
def MapBlk (w : World) (b : Nat) : Prop := ∃ es cl, w.heap[b]? = some (.map es cl)
theorem MapBlk.lt {w : World} {b : Nat} (h : MapBlk w b) : b < w.heap.size := by
  obtain ⟨es, cl, h⟩ := h
  exact (Array.getElem?_eq_some_iff.1 h).1
theorem MapBlk.user {w : World} {b : Nat} (h : MapBlk w b) : ∀ u, w.heap[b]? = some u → sysObj u = false := by
  obtain ⟨es, cl, h⟩ := h
  intro u hu
  rw [h] at hu
  cases hu
  rfl
theorem MapBlk.not_cell {w : World} {b : Nat} (h : MapBlk w b) (i : Nat) (v : Value) : w.cell? ⟨b, i, none⟩ ≠ some v := by
  obtain ⟨es, cl, h⟩ := h
  intro c
  simp [World.cell?, h] at c
theorem MapBlk.not_obj {w : World} {b p : Nat} {vs : List Value} (h : MapBlk w b) (ho : ObjAt w p vs) : b ≠ p := by
  rintro rfl
  obtain ⟨es, cl, h⟩ := h
  obtain ⟨e, h1⟩ := ho.heap
  rw [h] at h1
  cases h1
theorem ownsMap_blk {H : Type} {P : Program} {k : TypeId} {R : Value → Option (DataW H × List MemPlace)} {w : World} {b n : Nat} {D : DataW H} (h : w.ownsMap P k R b n D) : MapBlk w b := by
  obtain ⟨es, clock, hb, _, _, _⟩ := h
  exact ⟨es, clock, hb⟩
theorem ObjAt.user {w : World} {p : Nat} {vs : List Value} (h : ObjAt w p vs) : ∀ o, w.heap[p]? = some o → sysObj o = false := by
  obtain ⟨e, h1⟩ := h.heap
  intro o ho
  rw [h1] at ho
  cases ho
  rfl
theorem NumsIs.blk {F : Nat → Prop} {w : World} {mv : Option Nat} {l : List DotN} (h : NumsIs w mv F l) : ∀ b, mv = some b → MapBlk w b := by
  intro b e
  rcases h with ⟨c, _⟩ | ⟨B, n, D, c, hB, hm, hD⟩
  · rw [c] at e
    cases e
  · rw [c] at e
    cases e
    exact ownsMap_blk hm
theorem SetIs.blk {w : World} {o : Option Nat} {E : List DotN} (h : SetIs w o E) : ∀ b, o = some b → MapBlk w b := by
  intro b e
  rcases h with ⟨c, _⟩ | ⟨B, n, D, c, hm, hD⟩
  · rw [c] at e
    cases e
  · rw [c] at e
    cases e
    exact ownsMap_blk hm
theorem KeptIs.blk {w : World} {o : Option Nat} {rs : List EvR} (h : KeptIs w o rs) : ∀ b, o = some b → MapBlk w b := by
  intro b e
  rcases h with ⟨c, _⟩ | ⟨B, n, D, c, hm, hD⟩
  · rw [c] at e
    cases e
  · rw [c] at e
    cases e
    exact ownsMap_blk hm
theorem KeysIs.blk {w : World} {o : Option Nat} {B : Slots} (h : KeysIs w o B) : ∀ b, o = some b → MapBlk w b := by
  intro b e
  rcases h with ⟨c, _⟩ | ⟨q, n, D, c, hm, hD⟩
  · rw [c] at e
    cases e
  · rw [c] at e
    cases e
    exact ownsMap_blk hm
theorem SetIs.keeps {G : Nat → Prop} {w w' : World} {o : Option Nat} {E : List DotN} (h : SetIs w o E) (hk : Keeps G w w') (hd : ∀ b, o = some b → ¬ G b) : SetIs w' o E := by
  rcases h with h | ⟨b, n, D, rfl, hm, hD⟩
  · exact .inl h
  · exact .inr ⟨b, n, D, rfl, hk.grownBy (hd b rfl) hm, hD⟩
theorem KeptIs.keeps {G : Nat → Prop} {w w' : World} {o : Option Nat} {rs : List EvR} (h : KeptIs w o rs) (hk : Keeps G w w') (hd : ∀ b, o = some b → ¬ G b) : KeptIs w' o rs := by
  rcases h with h | ⟨b, n, D, rfl, hm, hD⟩
  · exact .inl h
  · exact .inr ⟨b, n, D, rfl, hk.grownBy (hd b rfl) hm, hD⟩
theorem KeysIs.keeps {G : Nat → Prop} {w w' : World} {o : Option Nat} {B : Slots} (h : KeysIs w o B) (hk : Keeps G w w') (hd : ∀ b, o = some b → ¬ G b) : KeysIs w' o B := by
  rcases h with h | ⟨b, n, D, rfl, hm, hD⟩
  · exact .inl h
  · exact .inr ⟨b, n, D, rfl, hk.grownBy (hd b rfl) hm, hD⟩
def overA (r : EvR) : Option Addr := match r.e.over with | [] => none | _ :: _ => r.a
theorem overA_lt {w : World} {r : EvR} (h : RowOf encD 3 w r.a r.e.over.length r.c r.e.over) : ∀ k, At (overA r) k → k < w.heap.size := by
  intro k hk
  unfold overA at hk
  split at hk
  · obtain ⟨x, hx, -⟩ := hk; cases hx
  · rename_i d t he
    obtain ⟨g, off, e, hc⟩ := h.at_ 0 d (by rw [he]; rfl)
    rw [e] at hk
    have h9 : g < w.heap.size := cell_lt (hc 0 _ rfl)
    have e2 : g = k := at_some.1 hk
    omega
theorem over_keeps {G : Nat → Prop} {w w' : World} {r : EvR} (h : RowOf encD 3 w r.a r.e.over.length r.c r.e.over) (hk : Keeps G w w') (hd : ∀ k, At (overA r) k → ¬ G k) : RowOf encD 3 w' r.a r.e.over.length r.c r.e.over := by
  unfold overA at hd
  cases e : r.e.over with
  | nil =>
    rw [e] at h
    exact ⟨h.leq, h.cle, h.capm, h.nil0, fun i x hx => by cases hx⟩
  | cons x t =>
    rw [e] at h hd
    exact h.keeps hk hd
structure Real (w : World) (p : Nat) (B : Slots) (rs : List EvR) (m : MapN) : Prop where
  obj : ObjAt w p [.map (B .ctx), .map (B .kept), .map (B .dead), .map (B .keys)]
  nums : NumsIs w (B .ctx) (fun b => B .ctx = some b) m.ctx
  kept : KeptIs w (B .kept) rs
  dead : SetIs w (B .dead) m.dead
  keys : KeysIs w (B .keys) B
  of : ∀ k, SetIs w (B (.of k)) (dotsK m.kept m.dead k)
  nothing : ∀ k, dotsK m.kept m.dead k = [] → B (.of k) = none
  inj : ∀ i j b, B i = some b → B j = some b → i = j
  over : OversAt w rs
  rs : rs.map (·.e) = m.kept
  ok : OkMs m
  few : m.kept.length ≤ 2048
  light : ∀ e ∈ m.kept, lightE e = true
theorem Real.blk {w : World} {p : Nat} {B : Slots} {rs : List EvR} {m : MapN} (h : Real w p B rs m) (i : Slot) (b : Nat) (e : B i = some b) : MapBlk w b := by
  cases i with
  | ctx => exact h.nums.blk b e
  | kept => exact h.kept.blk b e
  | dead => exact h.dead.blk b e
  | keys => exact h.keys.blk b e
  | of k => exact (h.of k).blk b e
theorem Real.keeps {G : Nat → Prop} {w w' : World} {p : Nat} {B : Slots} {rs : List EvR} {m : MapN} (h : Real w p B rs m) (hk : Keeps G w w') (hp : ¬ G p) (hB : ∀ i b, B i = some b → ¬ G b) (hR : ∀ r ∈ rs, ∀ k, At (overA r) k → ¬ G k) : Real w' p B rs m :=
  ⟨h.obj.keeps hk hp, h.nums.keeps hk fun b e => hB _ b e, h.kept.keeps hk (hB _), h.dead.keeps hk (hB _), h.keys.keeps hk (hB _), fun k => (h.of k).keeps hk (hB _), h.nothing, h.inj, fun r hr => over_keeps (h.over r hr) hk (hR r hr), h.rs, h.ok, h.few, h.light⟩
theorem Real.below {w w' : World} {p : Nat} {B : Slots} {rs : List EvR} {m : MapN} (h : Real w p B rs m) (hb : Below w.heap.size w w') : Real w' p B rs m :=
  h.keeps (Keeps.new (F := fun _ => False) hb) (fun c => c) (fun _ _ _ c => c) (fun _ _ _ _ c => c)
theorem Real.vec {w : World} {p : Nat} {B : Slots} {rs : List EvR} {m : MapN} (h : Real w p B rs m) : VecIn w p 0 [.map (B .ctx), .map (B .kept), .map (B .dead), .map (B .keys)] (B .ctx) m.ctx := ⟨h.obj, rfl, h.nums, h.ok.ok.ctx⟩
theorem Real.fit {w : World} {p : Nat} {B : Slots} {rs : List EvR} {m : MapN} (h : Real w p B rs m) {e : EventN} (he : e ∈ m.kept) : FitD e.dot := by
  have h1 := right_range (right_dotE (h.ok.right e he))
  refine ⟨?_, ?_, ?_⟩ <;> (unfold is64; omega)
theorem right_fitD {x : DotN} (hx : rightD x = true) : FitD x := by
  have h1 := right_range hx
  refine ⟨?_, ?_, ?_⟩ <;> (unfold is64; omega)
theorem light_fitK {e : EventN} (h : lightE e = true) : fitK (kOf e.item) := by
  unfold lightE at h
  simp only [Bool.and_eq_true, decide_eq_true_eq] at h
  unfold fitK kOf maxLen
  dsimp only
  omega
theorem Real.sorted {w : World} {p : Nat} {B : Slots} {rs : List EvR} {m : MapN} (h : Real w p B rs m) : SortedE (rs.map (·.e)) := h.rs ▸ h.ok.ok.kept
structure MapAt (w : World) (p : Nat) (F R : Nat → Prop) (m : MapN) : Prop where
  own : F p
  lt : ∀ k, F k ∨ R k → k < w.heap.size
  apart : ∀ k, F k → ¬ R k
  real : ∃ B rs, Real w p B rs m ∧ (∀ i b, B i = some b → F b) ∧ ∀ r ∈ rs, ∀ k, At (overA r) k → R k
theorem MapAt.keeps {G : Nat → Prop} {w w' : World} {p : Nat} {F R : Nat → Prop} {m : MapN} (h : MapAt w p F R m) (hk : Keeps G w w') (hd : ∀ k, F k ∨ R k → ¬ G k) : MapAt w' p F R m := by
  obtain ⟨B, rs, h1, h2, h3⟩ := h.real
  exact ⟨h.own, fun k hF => Nat.lt_of_lt_of_le (h.lt k hF) hk.size, h.apart, B, rs, h1.keeps hk (hd p (.inl h.own)) (fun i b e => hd b (.inl (h2 i b e))) (fun r hr k hk => hd k (.inr (h3 r hr k hk))), h2, h3⟩
theorem MapAt.below {w w' : World} {p : Nat} {F R : Nat → Prop} {m : MapN} (h : MapAt w p F R m) (hb : Below w.heap.size w w') : MapAt w' p F R m :=
  h.keeps (Keeps.new (F := fun _ => False) hb) (fun _ _ h => h)
def OwnB (p : Nat) (B : Slots) : Nat → Prop := fun k => k = p ∨ ∃ i, B i = some k
def OverB (rs : List EvR) : Nat → Prop := fun k => ∃ r ∈ rs, At (overA r) k
theorem Real.own_lt {w : World} {p : Nat} {B : Slots} {rs : List EvR} {m : MapN} (h : Real w p B rs m) : ∀ k, OwnB p B k → k < w.heap.size := by
  rintro k (rfl | ⟨i, e⟩)
  · exact h.obj.lt
  · exact (h.blk i k e).lt
theorem Real.over_lt {w : World} {p : Nat} {B : Slots} {rs : List EvR} {m : MapN} (h : Real w p B rs m) : ∀ k, OverB rs k → k < w.heap.size := by
  rintro k ⟨r, hr, hk⟩
  exact overA_lt (h.over r hr) k hk
theorem Real.own_user {w : World} {p : Nat} {B : Slots} {rs : List EvR} {m : MapN} (h : Real w p B rs m) : ∀ k, OwnB p B k → ∀ u, w.heap[k]? = some u → sysObj u = false := by
  rintro k (rfl | ⟨i, e⟩)
  · exact h.obj.user
  · exact (h.blk i k e).user
theorem over_cell {w : World} {r : EvR} (h : RowOf encD 3 w r.a r.e.over.length r.c r.e.over) : ∀ k, At (overA r) k → ∃ i n, w.cell? ⟨k, i, none⟩ = some (.int .i64 n) := by
  intro k hk
  unfold overA at hk
  split at hk
  · exact absurd hk (at_none k)
  · rename_i d t he
    obtain ⟨g, off, e, hc⟩ := h.at_ 0 d (by rw [he]; rfl)
    rw [e] at hk
    have e2 : g = k := at_some.1 hk
    subst e2
    exact ⟨_, _, hc 0 _ rfl⟩
theorem Real.over_apart {w : World} {p : Nat} {B : Slots} {rs : List EvR} {m : MapN} (h : Real w p B rs m) : ∀ k, OverB rs k → ¬ OwnB p B k := by
  rintro k ⟨r, hr, hk⟩ hc
  obtain ⟨i, n, hv⟩ := over_cell (h.over r hr) k hk
  rcases hc with rfl | ⟨j, e⟩
  · obtain ⟨e, h1⟩ := h.obj.heap
    simp only [World.cell?, h1] at hv
    rcases i with _ | _ | _ | _ | i <;> simp at hv
  · exact (h.blk j k e).not_cell _ _ hv
structure Step (w w' : World) (p : Nat) (B : Slots) (rs : List EvR) (B' : Slots) (rs' : List EvR) (m' : MapN) : Prop where
  real : Real w' p B' rs' m'
  keeps : Keeps (OwnB p B) w w'
  own : ∀ i b, B' i = some b → (∃ j, B j = some b) ∨ w.heap.size ≤ b
  over : ∀ k, OverB rs' k → OverB rs k ∨ w.heap.size ≤ k
theorem Step.trans {w w1 w2 : World} {p : Nat} {B B1 B2 : Slots} {rs rs1 rs2 : List EvR} {m1 m2 : MapN} (h : Step w w1 p B rs B1 rs1 m1) (k : Step w1 w2 p B1 rs1 B2 rs2 m2) : Step w w2 p B rs B2 rs2 m2 := by
  refine ⟨k.real, h.keeps.trans k.keeps fun b hb hF => ?_, fun i b e => ?_, fun b hb => ?_⟩
  · rcases hF with rfl | ⟨i, e⟩
    · exact .inl rfl
    · rcases h.own i b e with ⟨j, c⟩ | c
      · exact .inr ⟨j, c⟩
      · omega
  · rcases k.own i b e with ⟨j, c⟩ | c
    · exact h.own j b c
    · exact .inr (Nat.le_trans h.keeps.size c)
  · rcases k.over b hb with c | c
    · exact h.over b c
    · exact .inr (Nat.le_trans h.keeps.size c)
theorem Step.refl {w w' : World} {p : Nat} {B : Slots} {rs : List EvR} {m : MapN} (h : Real w p B rs m) (hb : Below w.heap.size w w') : Step w w' p B rs B rs m :=
  ⟨h.below hb, Keeps.new hb, fun i b e => .inl ⟨i, e⟩, fun k h => .inl h⟩
theorem Step.turns {w w' : World} {p : Nat} {F R : Nat → Prop} {B B' : Slots} {rs rs' : List EvR} {m m' : MapN} (hF : ∀ i b, B i = some b → F b) (hR : ∀ r ∈ rs, ∀ k, At (overA r) k → R k) (h : MapAt w p F R m) (s : Step w w' p B rs B' rs' m') :
    ∃ F' R', MapAt w' p F' R' m' ∧ Keeps F w w' ∧ (∀ k, F' k → F k ∨ w.heap.size ≤ k) ∧ ∀ k, R' k → R k ∨ w.heap.size ≤ k := by
  have hown : ∀ k, OwnB p B k → F k := by
    rintro k (rfl | ⟨i, e⟩)
    · exact h.own
    · exact hF i k e
  refine ⟨OwnB p B', fun k => (R k ∨ OverB rs' k) ∧ ¬ OwnB p B' k, ⟨.inl rfl, ?_, fun k h1 h2 => h2.2 h1, B', rs', s.real, fun i b e => .inr ⟨i, e⟩, fun r hr k hk => ⟨.inr ⟨r, hr, hk⟩, ?_⟩⟩, s.keeps.mono fun k _ hk => hown k hk, ?_, ?_⟩
  · rintro k (hk | ⟨hk | hk, _⟩)
    · exact s.real.own_lt k hk
    · exact Nat.lt_of_lt_of_le (h.lt k (.inr hk)) s.keeps.size
    · exact s.real.over_lt k hk
  · exact s.real.over_apart k ⟨r, hr, hk⟩
  · rintro k (rfl | ⟨i, e⟩)
    · exact .inl h.own
    · rcases s.own i k e with ⟨j, c⟩ | c
      · exact .inl (hF j k c)
      · exact .inr c
  · rintro k ⟨hk | ⟨r, hr, hk⟩, _⟩
    · exact .inl hk
    · rcases s.over k ⟨r, hr, hk⟩ with ⟨q, hq, c⟩ | c
      · exact .inl (hR q hq k c)
      · exact .inr c
end Go.Proofs.YtaodjnkjjmhecaaGreatDoor
namespace Go.Proofs.YtaodjnkjjmhecaaGreatDoor
open Go.RowKit
set_option linter.unusedVariables false
set_option linter.unusedSimpArgs false
def MapC {H : Type} (w : World) (K : TypeId) (R : Value → Option (DataW H × List MemPlace)) (mv : Option Nat) (D : DataW H) : Prop :=
  (mv = none ∧ D = .map []) ∨ ∃ b n, mv = some b ∧ w.ownsMap Tryz.prog K R b n D
def PutTo {H : Type} (p j : Nat) (vs : List Value) (mv : Option Nat) (K : TypeId) (R : Value → Option (DataW H × List MemPlace)) (D' : DataW H) (w w' : World) : Prop :=
  ∃ b n, ObjAt w' p (vs.set j (.map (some b))) ∧ w'.ownsMap Tryz.prog K R b n D' ∧ Keeps (fun k => k = p ∨ mv = some k) w w' ∧ (mv = some b ∨ (mv = none ∧ w.heap.size ≤ b))
set_option maxRecDepth 100000 in
set_option maxHeartbeats 2000000 in
theorem putEvC (p j : Nat) (vs : List Value) (mv : Option Nat) (D : DataW Value) (x : DotN) (A : Array Value) (w : World) (hx : FitD x) (zA : A.size = 19) (ho : ObjAt w p vs) (hj : vs[j]? = some (.map mv)) (hm : MapC w 35 heldElem mv D) (hn : Go.Maps.size D < 100000000) :
    Calls Tryz.prog 115 #[.pointer (some ⟨p, j, none⟩), .agg #[.int .i64 x.dev, .int .i64 x.inc, .int .i64 x.seq], .agg A] w fun e w' => e = .returned (.tuple #[]) ∧ PutTo p j vs mv 35 heldElem (D.put (keyD x) (.held (.agg A))) w w' := by
  have hkey := key_dot hx
  have hjl := (List.getElem?_eq_some_iff.1 hj).1
  have hpl := ho.lt
  obtain ⟨o1, oA, b0⟩ := two_objs w #[.int .i64 x.dev, .int .i64 x.inc, .int .i64 x.seq] A 35 43
  have ho2 := ho.below b0 ho.lt
  have hs2 : w.heap.size + 2 = ((w.alloc (.cells #[.int .i64 x.dev, .int .i64 x.inc, .int .i64 x.seq] 35)).alloc (.cells A 43)).heap.size := by simp
  generalize hw2 : (w.alloc (.cells #[.int .i64 x.dev, .int .i64 x.inc, .int .i64 x.seq] 35)).alloc (.cells A 43) = w2 at *
  have hmm := @run_makeMap Tryz.prog
  have kn := fun w r => Go.run_eql_map_nil (P := Tryz.prog) w 102 35 43 r Tryz.underlying102
  have c0 := ho2.cell j hj
  rcases hm with ⟨rfl, rfl⟩ | ⟨b0', n0, rfl, hm⟩
  · have b4 := below_alloc w2 (.map #[] 0)
    have q4 := ho2.below b4 ho2.lt
    have o4 := o1.below b4 o1.lt
    have hl4 := q4.lt
    have oA4 := oA.below b4 oA.lt
    have y4 := q4.cell j hj
    have g4 := q4.free j
    go_enter Tryz.func115, Tryz.ntmps115
    go_wp2
    have q5 := q4.set j (.map (some w2.heap.size))
    have o5 := o4.other (p := ⟨p, j, none⟩) (by show p ≠ w.heap.size; omega) (.map (some w2.heap.size))
    have oA5 := oA4.other (p := ⟨p, j, none⟩) (by show p ≠ w.heap.size + 1; omega) (.map (some w2.heap.size))
    have hM := (World.ownsMap_made (H := Value) w2 Tryz.prog 35 heldElem).setCell (a := ⟨p, j, none⟩) (fun e => by have := ho2.lt; have e2 : w2.heap.size = p := e; omega) (.map (some w2.heap.size))
    have k5 : Keeps (fun k => k = p ∨ (none : Option Nat) = some k) w ((w2.alloc (.map #[] 0)).setCell ⟨p, j, none⟩ (.map (some w2.heap.size))) := (Keeps.new (b0.trans (b4.mono b0.size))).setCell (.inl rfl) _
    have hj5 : (vs.set j (.map (some w2.heap.size)))[j]? = some (.map (some w2.heap.size)) := List.getElem?_set_self hjl
    have hnb : w2.heap.size ≠ p := by omega
    have hnk : w2.heap.size ≠ w.heap.size := by omega
    have hnA : w2.heap.size ≠ w.heap.size + 1 := by omega
    clear q4 o4 y4 g4 ho2 o1 c0 b4 oA4 oA ho
    generalize (w2.alloc (.map #[] 0)).setCell ⟨p, j, none⟩ (.map (some w2.heap.size)) = w5 at *
    refine wp_region_held_drew (S := fun w' => w'.cell? ⟨p, j, none⟩ = some (.map (some w2.heap.size)) ∧ w'.cell? ⟨w.heap.size, 0, none⟩ = some (.int .i64 x.dev) ∧ w'.cell? ⟨w.heap.size, 1, none⟩ = some (.int .i64 x.inc) ∧ w'.cell? ⟨w.heap.size, 2, none⟩ = some (.int .i64 x.seq) ∧ ObjAt w' (w.heap.size + 1) A.toList) (by kernel_rfl) (⟨q5.drew.cell j hj5, o5.drew.cell 0 rfl, o5.drew.cell 1 rfl, o5.drew.cell 2 rfl, oA5.drew⟩) (fun hHeld => ?_)
    first | (refine tR (i := 0) rfl rfl ?_) | (refine tL (i := 0) (v := ?vb1) rfl ?hyb1 ?rb1; case hyb1 => (rintro w' hS; obtain ⟨hs0, hs1, hs2, hs3, hs4⟩ := hS; go_simp; try with_reducible rfl))
    try simp only [gA, gB, Act.put, gD, gE, gF]
    first | (refine tR (i := 1) rfl rfl ?_) | (refine tL (i := 1) (v := ?vb2) rfl ?hyb2 ?rb2; case hyb2 => (rintro w' hS; obtain ⟨hs0, hs1, hs2, hs3, hs4⟩ := hS; go_simp; try with_reducible rfl))
    try simp only [gA, gB, gC, Act.put, gD, gE, gF]
    first | (refine tR (i := 2) rfl rfl ?_) | (refine tL (i := 2) (v := ?vb3) rfl ?hyb3 ?rb3; case hyb3 => (rintro w' hS; obtain ⟨hs0, hs1, hs2, hs3, hs4⟩ := hS; go_simp; try with_reducible rfl))
    try simp only [gA, gB, gC, Act.put, gD, gE, gF]
    first | (refine tR (i := 3) rfl rfl ?_) | (refine tL (i := 3) (v := ?vb4) rfl ?hyb4 ?rb4; case hyb4 => (rintro w' hS; obtain ⟨hs0, hs1, hs2, hs3, hs4⟩ := hS; go_simp; try with_reducible rfl))
    try simp only [gA, gB, gC, Act.put, gD, gE, gF]
    refine wpAnyH_take (i := 4) rfl (by kernel_rfl) (by kernel_rfl) (by kernel_rfl) (fun _ _ _ h => h) (Or.inl ⟨by rfl, fun w' hS => (by obtain ⟨hs0, hs1, hs2, hs3, hs4⟩ := hS; exact execLoadAll 43 _ rfl (w.heap.size + 1) 19 A rfl hs4 Tryz.isAgg43 Tryz.sizeOf43 zA)⟩) (by assumption) ?_
    try simp only [gA, gB, gC, Act.put, gD, gE, gF]
    refine wpAnyH_ready (rs := [5]) (by kernel_rfl) (by simp) ?_
    refine AllReadyH.cons (o := _) rfl (fun K hK => ?_) AllReadyH.nil
    refine step_mapUpdate (by rfl) (.tmp 15) (.tmp 16) (.tmp 17) 102 (by rfl) 35 43 keyedDot Tryz.underlying102 heldElem w2.heap.size _ _ rfl hM.drew (by have := ownsMap_tight hM; first | omega | (unfold maxLen; omega)) _ _ _ rfl rfl hkey _ _ held_store ?_; intro w9 hM9 hk9; have q9 := q5.drew.keeps hk9 (fun e => hnb e.symm); have k9 := o5.drew.keeps hk9 (fun e => hnk e.symm); have oA9 := oA5.drew.keeps hk9 (fun e => hnA e.symm)
    try dsimp only
    refine hK.out _ _ (⟨q9.cell j hj5, k9.cell 0 rfl, k9.cell 1 rfl, k9.cell 2 rfl, oA9⟩) (fun hHeld => ?_)
    clear hK K
    try simp only [gA, gB, gC, Act.put, gD, gE, gF]
    refine wpAnyH_done (by kernel_rfl) ?_ _
    go_wp2
    go_end0
    have kd : Keeps (fun k => k = p ∨ (none : Option Nat) = some k) w5 w5.drew := Keeps.new (Below.refl _ _).drew
    exact ⟨rfl, _, _, q9, hM9, (k5.trans kd (fun _ _ h => h)).trans hk9 (fun k hk e => by subst e; omega), .inr ⟨rfl, by omega⟩⟩
  · have hne := obj_not_map ho hm
    have hM0 := (Keeps.new (F := fun _ => False) b0).grownBy (b := b0') (fun h => h) hm
    have hlb := hm.lt
    have hsz := hM0.size_le
    go_enter Tryz.func115, Tryz.ntmps115
    go_wp2_with fail
    have q5 := ho2
    have o5 := o1
    have oA5 := oA
    have hM := ownsMap_tight hM0
    have hj5 := hj
    have hnb : b0' ≠ p := hne
    have hnk : b0' ≠ w.heap.size := by omega
    have hnA : b0' ≠ w.heap.size + 1 := by omega
    refine wp_region_held_drew (S := fun w' => w'.cell? ⟨p, j, none⟩ = some (.map (some b0')) ∧ w'.cell? ⟨w.heap.size, 0, none⟩ = some (.int .i64 x.dev) ∧ w'.cell? ⟨w.heap.size, 1, none⟩ = some (.int .i64 x.inc) ∧ w'.cell? ⟨w.heap.size, 2, none⟩ = some (.int .i64 x.seq) ∧ ObjAt w' (w.heap.size + 1) A.toList) (by kernel_rfl) (⟨q5.drew.cell j hj5, o5.drew.cell 0 rfl, o5.drew.cell 1 rfl, o5.drew.cell 2 rfl, oA5.drew⟩) (fun hHeld => ?_)
    first | (refine tR (i := 0) rfl rfl ?_) | (refine tL (i := 0) (v := ?vb5) rfl ?hyb5 ?rb5; case hyb5 => (rintro w' hS; obtain ⟨hs0, hs1, hs2, hs3, hs4⟩ := hS; go_simp; try with_reducible rfl))
    try simp only [gA, gB, Act.put, gD, gE, gF]
    first | (refine tR (i := 1) rfl rfl ?_) | (refine tL (i := 1) (v := ?vb6) rfl ?hyb6 ?rb6; case hyb6 => (rintro w' hS; obtain ⟨hs0, hs1, hs2, hs3, hs4⟩ := hS; go_simp; try with_reducible rfl))
    try simp only [gA, gB, gC, Act.put, gD, gE, gF]
    first | (refine tR (i := 2) rfl rfl ?_) | (refine tL (i := 2) (v := ?vb7) rfl ?hyb7 ?rb7; case hyb7 => (rintro w' hS; obtain ⟨hs0, hs1, hs2, hs3, hs4⟩ := hS; go_simp; try with_reducible rfl))
    try simp only [gA, gB, gC, Act.put, gD, gE, gF]
    first | (refine tR (i := 3) rfl rfl ?_) | (refine tL (i := 3) (v := ?vb8) rfl ?hyb8 ?rb8; case hyb8 => (rintro w' hS; obtain ⟨hs0, hs1, hs2, hs3, hs4⟩ := hS; go_simp; try with_reducible rfl))
    try simp only [gA, gB, gC, Act.put, gD, gE, gF]
    refine wpAnyH_take (i := 4) rfl (by kernel_rfl) (by kernel_rfl) (by kernel_rfl) (fun _ _ _ h => h) (Or.inl ⟨by rfl, fun w' hS => (by obtain ⟨hs0, hs1, hs2, hs3, hs4⟩ := hS; exact execLoadAll 43 _ rfl (w.heap.size + 1) 19 A rfl hs4 Tryz.isAgg43 Tryz.sizeOf43 zA)⟩) (by assumption) ?_
    try simp only [gA, gB, gC, Act.put, gD, gE, gF]
    refine wpAnyH_ready (rs := [5]) (by kernel_rfl) (by simp) ?_
    refine AllReadyH.cons (o := _) rfl (fun K hK => ?_) AllReadyH.nil
    refine step_mapUpdate (by rfl) (.tmp 15) (.tmp 16) (.tmp 17) 102 (by rfl) 35 43 keyedDot Tryz.underlying102 heldElem b0' _ _ rfl hM.drew (by have := ownsMap_tight hM; first | omega | (unfold maxLen; omega)) _ _ _ rfl rfl hkey _ _ held_store ?_; intro w9 hM9 hk9; have q9 := q5.drew.keeps hk9 (fun e => hnb e.symm); have k9 := o5.drew.keeps hk9 (fun e => hnk e.symm); have oA9 := oA5.drew.keeps hk9 (fun e => hnA e.symm)
    try dsimp only
    refine hK.out _ _ (⟨q9.cell j hj5, k9.cell 0 rfl, k9.cell 1 rfl, k9.cell 2 rfl, oA9⟩) (fun hHeld => ?_)
    clear hK K
    try simp only [gA, gB, gC, Act.put, gD, gE, gF]
    refine wpAnyH_done (by kernel_rfl) ?_ _
    go_wp2
    go_end0
    have kd : Keeps (fun k => k = p ∨ some b0' = some k) w2 w2.drew := Keeps.new (Below.refl _ _).drew
    exact ⟨rfl, b0', _, by rw [set_as hj]; exact q9, hM9, ((Keeps.new b0).trans kd (fun _ _ h => h)).trans hk9 (fun k hk e => .inr (by rw [e])), .inl rfl⟩
set_option maxRecDepth 100000 in
set_option maxHeartbeats 2000000 in
theorem putSetC (p j : Nat) (vs : List Value) (mv : Option Nat) (D : DataW Unit) (x : DotN) (w : World) (hx : FitD x) (ho : ObjAt w p vs) (hj : vs[j]? = some (.map mv)) (hm : MapC w 35 unitElem mv D) (hn : Go.Maps.size D < 100000000) :
    Calls Tryz.prog 117 #[.pointer (some ⟨p, j, none⟩), .agg #[.int .i64 x.dev, .int .i64 x.inc, .int .i64 x.seq], .agg #[]] w fun e w' => e = .returned (.tuple #[]) ∧ PutTo p j vs mv 35 unitElem (D.put (keyD x) (.agg [])) w w' := by
  have hkey := key_dot hx
  have hjl := (List.getElem?_eq_some_iff.1 hj).1
  have hpl := ho.lt
  obtain ⟨o1, oA, b0⟩ := two_objs w #[.int .i64 x.dev, .int .i64 x.inc, .int .i64 x.seq] #[] 35 123
  have ho2 := ho.below b0 ho.lt
  have hs2 : w.heap.size + 2 = ((w.alloc (.cells #[.int .i64 x.dev, .int .i64 x.inc, .int .i64 x.seq] 35)).alloc (.cells #[] 123)).heap.size := by simp
  generalize hw2 : (w.alloc (.cells #[.int .i64 x.dev, .int .i64 x.inc, .int .i64 x.seq] 35)).alloc (.cells #[] 123) = w2 at *
  have hmm := @run_makeMap Tryz.prog
  have kn := fun w r => Go.run_eql_map_nil (P := Tryz.prog) w 103 35 123 r Tryz.underlying103
  have c0 := ho2.cell j hj
  rcases hm with ⟨rfl, rfl⟩ | ⟨b0', n0, rfl, hm⟩
  · have b4 := below_alloc w2 (.map #[] 0)
    have q4 := ho2.below b4 ho2.lt
    have o4 := o1.below b4 o1.lt
    have hl4 := q4.lt
    have oA4 := oA.below b4 oA.lt
    have y4 := q4.cell j hj
    have g4 := q4.free j
    go_enter Tryz.func117, Tryz.ntmps117
    go_wp2
    have q5 := q4.set j (.map (some w2.heap.size))
    have o5 := o4.other (p := ⟨p, j, none⟩) (by show p ≠ w.heap.size; omega) (.map (some w2.heap.size))
    have hM := (World.ownsMap_made (H := Unit) w2 Tryz.prog 35 unitElem).setCell (a := ⟨p, j, none⟩) (fun e => by have := ho2.lt; have e2 : w2.heap.size = p := e; omega) (.map (some w2.heap.size))
    have k5 : Keeps (fun k => k = p ∨ (none : Option Nat) = some k) w ((w2.alloc (.map #[] 0)).setCell ⟨p, j, none⟩ (.map (some w2.heap.size))) := (Keeps.new (b0.trans (b4.mono b0.size))).setCell (.inl rfl) _
    have hj5 : (vs.set j (.map (some w2.heap.size)))[j]? = some (.map (some w2.heap.size)) := List.getElem?_set_self hjl
    have hnb : w2.heap.size ≠ p := by omega
    have hnk : w2.heap.size ≠ w.heap.size := by omega
    clear q4 o4 y4 g4 ho2 o1 c0 b4 oA4 oA ho
    generalize (w2.alloc (.map #[] 0)).setCell ⟨p, j, none⟩ (.map (some w2.heap.size)) = w5 at *
    refine wp_region_held_drew (S := fun w' => w'.cell? ⟨p, j, none⟩ = some (.map (some w2.heap.size)) ∧ w'.cell? ⟨w.heap.size, 0, none⟩ = some (.int .i64 x.dev) ∧ w'.cell? ⟨w.heap.size, 1, none⟩ = some (.int .i64 x.inc) ∧ w'.cell? ⟨w.heap.size, 2, none⟩ = some (.int .i64 x.seq)) (by kernel_rfl) (⟨q5.drew.cell j hj5, o5.drew.cell 0 rfl, o5.drew.cell 1 rfl, o5.drew.cell 2 rfl⟩) (fun hHeld => ?_)
    first | (refine tR (i := 0) rfl rfl ?_) | (refine tL (i := 0) (v := ?vb9) rfl ?hyb9 ?rb9; case hyb9 => (rintro w' hS; obtain ⟨hs0, hs1, hs2, hs3⟩ := hS; go_simp; try with_reducible rfl))
    try simp only [gA, gB, Act.put, gD, gE, gF]
    first | (refine tR (i := 1) rfl rfl ?_) | (refine tL (i := 1) (v := ?vb10) rfl ?hyb10 ?rb10; case hyb10 => (rintro w' hS; obtain ⟨hs0, hs1, hs2, hs3⟩ := hS; go_simp; try with_reducible rfl))
    try simp only [gA, gB, gC, Act.put, gD, gE, gF]
    first | (refine tR (i := 2) rfl rfl ?_) | (refine tL (i := 2) (v := ?vb11) rfl ?hyb11 ?rb11; case hyb11 => (rintro w' hS; obtain ⟨hs0, hs1, hs2, hs3⟩ := hS; go_simp; try with_reducible rfl))
    try simp only [gA, gB, gC, Act.put, gD, gE, gF]
    first | (refine tR (i := 3) rfl rfl ?_) | (refine tL (i := 3) (v := ?vb12) rfl ?hyb12 ?rb12; case hyb12 => (rintro w' hS; obtain ⟨hs0, hs1, hs2, hs3⟩ := hS; go_simp; try with_reducible rfl))
    try simp only [gA, gB, gC, Act.put, gD, gE, gF]
    first | (refine tR (i := 4) rfl rfl ?_) | (refine tL (i := 4) (v := ?vb13) rfl ?hyb13 ?rb13; case hyb13 => (rintro w' hS; obtain ⟨hs0, hs1, hs2, hs3⟩ := hS; go_simp; try with_reducible rfl))
    try simp only [gA, gB, gC, Act.put, gD, gE, gF]
    refine wpAnyH_ready (rs := [5]) (by kernel_rfl) (by simp) ?_
    refine AllReadyH.cons (o := _) rfl (fun K hK => ?_) AllReadyH.nil
    refine step_mapUpdate (by rfl) (.tmp 15) (.tmp 16) (.tmp 17) 103 (by rfl) 35 123 keyedDot Tryz.underlying103 unitElem w2.heap.size _ _ rfl hM.drew (by have := ownsMap_tight hM; first | omega | (unfold maxLen; omega)) _ _ _ rfl rfl hkey _ _ unitElem_mk ?_; intro w9 hM9 hk9; have q9 := q5.drew.keeps hk9 (fun e => hnb e.symm); have k9 := o5.drew.keeps hk9 (fun e => hnk e.symm)
    try dsimp only
    refine hK.out _ _ (⟨q9.cell j hj5, k9.cell 0 rfl, k9.cell 1 rfl, k9.cell 2 rfl⟩) (fun hHeld => ?_)
    clear hK K
    try simp only [gA, gB, gC, Act.put, gD, gE, gF]
    refine wpAnyH_done (by kernel_rfl) ?_ _
    go_wp2
    go_end0
    have kd : Keeps (fun k => k = p ∨ (none : Option Nat) = some k) w5 w5.drew := Keeps.new (Below.refl _ _).drew
    exact ⟨rfl, _, _, q9, hM9, (k5.trans kd (fun _ _ h => h)).trans hk9 (fun k hk e => by subst e; omega), .inr ⟨rfl, by omega⟩⟩
  · have hne := obj_not_map ho hm
    have hM0 := (Keeps.new (F := fun _ => False) b0).grownBy (b := b0') (fun h => h) hm
    have hlb := hm.lt
    have hsz := hM0.size_le
    go_enter Tryz.func117, Tryz.ntmps117
    go_wp2_with fail
    have q5 := ho2
    have o5 := o1
    have hM := ownsMap_tight hM0
    have hj5 := hj
    have hnb : b0' ≠ p := hne
    have hnk : b0' ≠ w.heap.size := by omega
    refine wp_region_held_drew (S := fun w' => w'.cell? ⟨p, j, none⟩ = some (.map (some b0')) ∧ w'.cell? ⟨w.heap.size, 0, none⟩ = some (.int .i64 x.dev) ∧ w'.cell? ⟨w.heap.size, 1, none⟩ = some (.int .i64 x.inc) ∧ w'.cell? ⟨w.heap.size, 2, none⟩ = some (.int .i64 x.seq)) (by kernel_rfl) (⟨q5.drew.cell j hj5, o5.drew.cell 0 rfl, o5.drew.cell 1 rfl, o5.drew.cell 2 rfl⟩) (fun hHeld => ?_)
    first | (refine tR (i := 0) rfl rfl ?_) | (refine tL (i := 0) (v := ?vb14) rfl ?hyb14 ?rb14; case hyb14 => (rintro w' hS; obtain ⟨hs0, hs1, hs2, hs3⟩ := hS; go_simp; try with_reducible rfl))
    try simp only [gA, gB, Act.put, gD, gE, gF]
    first | (refine tR (i := 1) rfl rfl ?_) | (refine tL (i := 1) (v := ?vb15) rfl ?hyb15 ?rb15; case hyb15 => (rintro w' hS; obtain ⟨hs0, hs1, hs2, hs3⟩ := hS; go_simp; try with_reducible rfl))
    try simp only [gA, gB, gC, Act.put, gD, gE, gF]
    first | (refine tR (i := 2) rfl rfl ?_) | (refine tL (i := 2) (v := ?vb16) rfl ?hyb16 ?rb16; case hyb16 => (rintro w' hS; obtain ⟨hs0, hs1, hs2, hs3⟩ := hS; go_simp; try with_reducible rfl))
    try simp only [gA, gB, gC, Act.put, gD, gE, gF]
    first | (refine tR (i := 3) rfl rfl ?_) | (refine tL (i := 3) (v := ?vb17) rfl ?hyb17 ?rb17; case hyb17 => (rintro w' hS; obtain ⟨hs0, hs1, hs2, hs3⟩ := hS; go_simp; try with_reducible rfl))
    try simp only [gA, gB, gC, Act.put, gD, gE, gF]
    first | (refine tR (i := 4) rfl rfl ?_) | (refine tL (i := 4) (v := ?vb18) rfl ?hyb18 ?rb18; case hyb18 => (rintro w' hS; obtain ⟨hs0, hs1, hs2, hs3⟩ := hS; go_simp; try with_reducible rfl))
    try simp only [gA, gB, gC, Act.put, gD, gE, gF]
    refine wpAnyH_ready (rs := [5]) (by kernel_rfl) (by simp) ?_
    refine AllReadyH.cons (o := _) rfl (fun K hK => ?_) AllReadyH.nil
    refine step_mapUpdate (by rfl) (.tmp 15) (.tmp 16) (.tmp 17) 103 (by rfl) 35 123 keyedDot Tryz.underlying103 unitElem b0' _ _ rfl hM.drew (by have := ownsMap_tight hM; first | omega | (unfold maxLen; omega)) _ _ _ rfl rfl hkey _ _ unitElem_mk ?_; intro w9 hM9 hk9; have q9 := q5.drew.keeps hk9 (fun e => hnb e.symm); have k9 := o5.drew.keeps hk9 (fun e => hnk e.symm)
    try dsimp only
    refine hK.out _ _ (⟨q9.cell j hj5, k9.cell 0 rfl, k9.cell 1 rfl, k9.cell 2 rfl⟩) (fun hHeld => ?_)
    clear hK K
    try simp only [gA, gB, gC, Act.put, gD, gE, gF]
    refine wpAnyH_done (by kernel_rfl) ?_ _
    go_wp2
    go_end0
    have kd : Keeps (fun k => k = p ∨ some b0' = some k) w2 w2.drew := Keeps.new (Below.refl _ _).drew
    exact ⟨rfl, b0', _, by rw [set_as hj]; exact q9, hM9, ((Keeps.new b0).trans kd (fun _ _ h => h)).trans hk9 (fun k hk e => .inr (by rw [e])), .inl rfl⟩
set_option maxRecDepth 100000 in
set_option maxHeartbeats 2000000 in
theorem putKeyC (p j : Nat) (vs : List Value) (mv : Option Nat) (D : DataW Value) (a b c : List UInt8) (u : Option Nat) (w : World) (ha : a.length ≤ maxLen) (hb : b.length ≤ maxLen) (hc : c.length ≤ maxLen) (ho : ObjAt w p vs) (hj : vs[j]? = some (.map mv)) (hm : MapC w 39 heldElem mv D) (hn : Go.Maps.size D < 100000000) :
    Calls Tryz.prog 118 #[.pointer (some ⟨p, j, none⟩), .agg #[.string (str a), .string (str b), .string (str c)], .map u] w fun e w' => e = .returned (.tuple #[]) ∧ PutTo p j vs mv 39 heldElem (D.put (keyK a b c) (.held (.map u))) w w' := by
  have hkey := key_key ha hb hc
  have hjl := (List.getElem?_eq_some_iff.1 hj).1
  have hpl := ho.lt
  have o1 := ObjAt.new w #[.string (str a), .string (str b), .string (str c)] 39
  have b0 := below_alloc w (.cells #[.string (str a), .string (str b), .string (str c)] 39)
  have ho2 := ho.below b0 ho.lt
  have hs2 : w.heap.size + 1 = (w.alloc (.cells #[.string (str a), .string (str b), .string (str c)] 39)).heap.size := by simp
  generalize hw2 : w.alloc (.cells #[.string (str a), .string (str b), .string (str c)] 39) = w2 at *
  have hmm := @run_makeMap Tryz.prog
  have kn := fun w r => Go.run_eql_map_nil (P := Tryz.prog) w 104 39 103 r Tryz.underlying104
  have c0 := ho2.cell j hj
  rcases hm with ⟨rfl, rfl⟩ | ⟨b0', n0, rfl, hm⟩
  · have b4 := below_alloc w2 (.map #[] 0)
    have q4 := ho2.below b4 ho2.lt
    have o4 := o1.below b4 o1.lt
    have hl4 := q4.lt
    have y4 := q4.cell j hj
    have g4 := q4.free j
    go_enter Tryz.func118, Tryz.ntmps118
    go_wp2
    have q5 := q4.set j (.map (some w2.heap.size))
    have o5 := o4.other (p := ⟨p, j, none⟩) (by show p ≠ w.heap.size; omega) (.map (some w2.heap.size))
    have hM := (World.ownsMap_made (H := Value) w2 Tryz.prog 39 heldElem).setCell (a := ⟨p, j, none⟩) (fun e => by have := ho2.lt; have e2 : w2.heap.size = p := e; omega) (.map (some w2.heap.size))
    have k5 : Keeps (fun k => k = p ∨ (none : Option Nat) = some k) w ((w2.alloc (.map #[] 0)).setCell ⟨p, j, none⟩ (.map (some w2.heap.size))) := (Keeps.new (b0.trans (b4.mono b0.size))).setCell (.inl rfl) _
    have hj5 : (vs.set j (.map (some w2.heap.size)))[j]? = some (.map (some w2.heap.size)) := List.getElem?_set_self hjl
    have hnb : w2.heap.size ≠ p := by omega
    have hnk : w2.heap.size ≠ w.heap.size := by omega
    clear q4 o4 y4 g4 ho2 o1 c0 b4  ho
    generalize (w2.alloc (.map #[] 0)).setCell ⟨p, j, none⟩ (.map (some w2.heap.size)) = w5 at *
    refine wp_region_held_drew (S := fun w' => w'.cell? ⟨p, j, none⟩ = some (.map (some w2.heap.size)) ∧ w'.cell? ⟨w.heap.size, 0, none⟩ = some (.string (str a)) ∧ w'.cell? ⟨w.heap.size, 1, none⟩ = some (.string (str b)) ∧ w'.cell? ⟨w.heap.size, 2, none⟩ = some (.string (str c))) (by kernel_rfl) (⟨q5.drew.cell j hj5, o5.drew.cell 0 rfl, o5.drew.cell 1 rfl, o5.drew.cell 2 rfl⟩) (fun hHeld => ?_)
    first | (refine tR (i := 0) rfl rfl ?_) | (refine tL (i := 0) (v := ?vb19) rfl ?hyb19 ?rb19; case hyb19 => (rintro w' hS; obtain ⟨hs0, hs1, hs2, hs3⟩ := hS; go_simp; try with_reducible rfl))
    try simp only [gA, gB, Act.put, gD, gE, gF]
    first | (refine tR (i := 1) rfl rfl ?_) | (refine tL (i := 1) (v := ?vb20) rfl ?hyb20 ?rb20; case hyb20 => (rintro w' hS; obtain ⟨hs0, hs1, hs2, hs3⟩ := hS; go_simp; try with_reducible rfl))
    try simp only [gA, gB, gC, Act.put, gD, gE, gF]
    first | (refine tR (i := 2) rfl rfl ?_) | (refine tL (i := 2) (v := ?vb21) rfl ?hyb21 ?rb21; case hyb21 => (rintro w' hS; obtain ⟨hs0, hs1, hs2, hs3⟩ := hS; go_simp; try with_reducible rfl))
    try simp only [gA, gB, gC, Act.put, gD, gE, gF]
    first | (refine tR (i := 3) rfl rfl ?_) | (refine tL (i := 3) (v := ?vb22) rfl ?hyb22 ?rb22; case hyb22 => (rintro w' hS; obtain ⟨hs0, hs1, hs2, hs3⟩ := hS; go_simp; try with_reducible rfl))
    try simp only [gA, gB, gC, Act.put, gD, gE, gF]
    first | (refine tR (i := 4) rfl rfl ?_) | (refine tL (i := 4) (v := ?vb23) rfl ?hyb23 ?rb23; case hyb23 => (rintro w' hS; obtain ⟨hs0, hs1, hs2, hs3⟩ := hS; go_simp; try with_reducible rfl))
    try simp only [gA, gB, gC, Act.put, gD, gE, gF]
    refine wpAnyH_ready (rs := [5]) (by kernel_rfl) (by simp) ?_
    refine AllReadyH.cons (o := _) rfl (fun K hK => ?_) AllReadyH.nil
    refine step_mapUpdate (by rfl) (.tmp 15) (.tmp 16) (.tmp 17) 104 (by rfl) 39 103 keyedKey Tryz.underlying104 heldElem w2.heap.size _ _ rfl hM.drew (by have := ownsMap_tight hM; first | omega | (unfold maxLen; omega)) _ _ _ rfl rfl hkey _ _ held_store ?_; intro w9 hM9 hk9; have q9 := q5.drew.keeps hk9 (fun e => hnb e.symm); have k9 := o5.drew.keeps hk9 (fun e => hnk e.symm)
    try dsimp only
    refine hK.out _ _ (⟨q9.cell j hj5, k9.cell 0 rfl, k9.cell 1 rfl, k9.cell 2 rfl⟩) (fun hHeld => ?_)
    clear hK K
    try simp only [gA, gB, gC, Act.put, gD, gE, gF]
    refine wpAnyH_done (by kernel_rfl) ?_ _
    go_wp2
    go_end0
    have kd : Keeps (fun k => k = p ∨ (none : Option Nat) = some k) w5 w5.drew := Keeps.new (Below.refl _ _).drew
    exact ⟨rfl, _, _, q9, hM9, (k5.trans kd (fun _ _ h => h)).trans hk9 (fun k hk e => by subst e; omega), .inr ⟨rfl, by omega⟩⟩
  · have hne := obj_not_map ho hm
    have hM0 := (Keeps.new (F := fun _ => False) b0).grownBy (b := b0') (fun h => h) hm
    have hlb := hm.lt
    have hsz := hM0.size_le
    go_enter Tryz.func118, Tryz.ntmps118
    go_wp2_with fail
    have q5 := ho2
    have o5 := o1
    have hM := ownsMap_tight hM0
    have hj5 := hj
    have hnb : b0' ≠ p := hne
    have hnk : b0' ≠ w.heap.size := by omega
    refine wp_region_held_drew (S := fun w' => w'.cell? ⟨p, j, none⟩ = some (.map (some b0')) ∧ w'.cell? ⟨w.heap.size, 0, none⟩ = some (.string (str a)) ∧ w'.cell? ⟨w.heap.size, 1, none⟩ = some (.string (str b)) ∧ w'.cell? ⟨w.heap.size, 2, none⟩ = some (.string (str c))) (by kernel_rfl) (⟨q5.drew.cell j hj5, o5.drew.cell 0 rfl, o5.drew.cell 1 rfl, o5.drew.cell 2 rfl⟩) (fun hHeld => ?_)
    first | (refine tR (i := 0) rfl rfl ?_) | (refine tL (i := 0) (v := ?vb24) rfl ?hyb24 ?rb24; case hyb24 => (rintro w' hS; obtain ⟨hs0, hs1, hs2, hs3⟩ := hS; go_simp; try with_reducible rfl))
    try simp only [gA, gB, Act.put, gD, gE, gF]
    first | (refine tR (i := 1) rfl rfl ?_) | (refine tL (i := 1) (v := ?vb25) rfl ?hyb25 ?rb25; case hyb25 => (rintro w' hS; obtain ⟨hs0, hs1, hs2, hs3⟩ := hS; go_simp; try with_reducible rfl))
    try simp only [gA, gB, gC, Act.put, gD, gE, gF]
    first | (refine tR (i := 2) rfl rfl ?_) | (refine tL (i := 2) (v := ?vb26) rfl ?hyb26 ?rb26; case hyb26 => (rintro w' hS; obtain ⟨hs0, hs1, hs2, hs3⟩ := hS; go_simp; try with_reducible rfl))
    try simp only [gA, gB, gC, Act.put, gD, gE, gF]
    first | (refine tR (i := 3) rfl rfl ?_) | (refine tL (i := 3) (v := ?vb27) rfl ?hyb27 ?rb27; case hyb27 => (rintro w' hS; obtain ⟨hs0, hs1, hs2, hs3⟩ := hS; go_simp; try with_reducible rfl))
    try simp only [gA, gB, gC, Act.put, gD, gE, gF]
    first | (refine tR (i := 4) rfl rfl ?_) | (refine tL (i := 4) (v := ?vb28) rfl ?hyb28 ?rb28; case hyb28 => (rintro w' hS; obtain ⟨hs0, hs1, hs2, hs3⟩ := hS; go_simp; try with_reducible rfl))
    try simp only [gA, gB, gC, Act.put, gD, gE, gF]
    refine wpAnyH_ready (rs := [5]) (by kernel_rfl) (by simp) ?_
    refine AllReadyH.cons (o := _) rfl (fun K hK => ?_) AllReadyH.nil
    refine step_mapUpdate (by rfl) (.tmp 15) (.tmp 16) (.tmp 17) 104 (by rfl) 39 103 keyedKey Tryz.underlying104 heldElem b0' _ _ rfl hM.drew (by have := ownsMap_tight hM; first | omega | (unfold maxLen; omega)) _ _ _ rfl rfl hkey _ _ held_store ?_; intro w9 hM9 hk9; have q9 := q5.drew.keeps hk9 (fun e => hnb e.symm); have k9 := o5.drew.keeps hk9 (fun e => hnk e.symm)
    try dsimp only
    refine hK.out _ _ (⟨q9.cell j hj5, k9.cell 0 rfl, k9.cell 1 rfl, k9.cell 2 rfl⟩) (fun hHeld => ?_)
    clear hK K
    try simp only [gA, gB, gC, Act.put, gD, gE, gF]
    refine wpAnyH_done (by kernel_rfl) ?_ _
    go_wp2
    go_end0
    have kd : Keeps (fun k => k = p ∨ some b0' = some k) w2 w2.drew := Keeps.new (Below.refl _ _).drew
    exact ⟨rfl, b0', _, by rw [set_as hj]; exact q9, hM9, ((Keeps.new b0).trans kd (fun _ _ h => h)).trans hk9 (fun k hk e => .inr (by rw [e])), .inl rfl⟩
end Go.Proofs.YtaodjnkjjmhecaaGreatDoor
namespace Go.Proofs.YtaodjnkjjmhecaaGreatDoor
open Go.RowKit Go.WideMaps
set_option linter.unusedVariables false
set_option maxRecDepth 100000 in
theorem key_dot_inv {key : Value} {kl : Lit} (h : keyOf Tryz.prog 35 key = some kl) : ∃ d i c, is64 d ∧ is64 i ∧ is64 c ∧ key = .agg #[.int .i64 d, .int .i64 i, .int .i64 c] ∧ kl = keyD ⟨d, i, c⟩ := by
  obtain ⟨m, hm⟩ : ∃ m, Tryz.prog.types.size = m + 2 := ⟨Tryz.prog.types.size - 2, by kernel_rfl⟩
  have hc : Tryz.prog.cellsOf 35 = 3 := by kernel_rfl
  have hc2 : Tryz.prog.cellsOf 33 = 2 := by kernel_rfl
  have hc3 : Tryz.prog.cellsOf 3 = 1 := by kernel_rfl
  have h0 := h
  unfold keyOf at h
  rw [Tryz.underlying35] at h
  dsimp only at h
  split at h
  case isFalse => cases h
  case isTrue hh =>
    rw [Bool.and_eq_true] at hh
    have hf := hh.2
    cases key
    case agg cs =>
      obtain ⟨l⟩ := cs
      have hs : l.length = 3 := by simpa [Value.formed, Tryz.underlying35, hc] using hf
      match l, hs with
      | [x, y, z], _ =>
        cases hl : Tryz.prog.keyLits (Tryz.prog.types.size + 1) 35 (Value.agg #[x, y, z]).cells.toList with
        | none => rw [hl] at h; cases h
        | some ls =>
          rw [hm] at hl
          have hxy : ∃ d i c, is64 d ∧ is64 i ∧ is64 c ∧ x = .int .i64 d ∧ y = .int .i64 i ∧ z = .int .i64 c := by
            simp only [is64_wf]
            clear h h0 hh hf
            cases x with
            | int q1 n1 =>
              by_cases a1 : q1 = .i64 ∧ (Lit.int .i64 n1).wf = true
              · cases y with
                | int q2 n2 =>
                  by_cases a2 : q2 = .i64 ∧ (Lit.int .i64 n2).wf = true
                  · cases z with
                    | int q3 n3 =>
                      by_cases a3 : q3 = .i64 ∧ (Lit.int .i64 n3).wf = true
                      · exact ⟨n1, n2, n3, a1.2, a2.2, a3.2, by rw [a1.1], by rw [a2.1], by rw [a3.1]⟩
                      · exfalso; simp [Program.keyLits, Value.cells, Tryz.underlying35, Tryz.underlying33, Tryz.underlying3, hc, hc2, hc3, a1, a2, a3] at hl
                    | _ => exfalso; simp [Program.keyLits, Value.cells, Tryz.underlying35, Tryz.underlying33, Tryz.underlying3, hc, hc2, hc3, a1, a2] at hl
                  · exfalso; simp [Program.keyLits, Value.cells, Tryz.underlying35, Tryz.underlying33, Tryz.underlying3, hc, hc2, hc3, a1, a2] at hl
                | _ => exfalso; simp [Program.keyLits, Value.cells, Tryz.underlying35, Tryz.underlying33, Tryz.underlying3, hc, hc2, hc3, a1] at hl
              · exfalso; simp [Program.keyLits, Value.cells, Tryz.underlying35, Tryz.underlying33, Tryz.underlying3, hc, hc2, hc3, a1] at hl
            | _ => exfalso; simp [Program.keyLits, Value.cells, Tryz.underlying35, Tryz.underlying33, Tryz.underlying3, hc, hc2, hc3] at hl
          obtain ⟨d, i, c, hd, hi, hcc, rfl, rfl, rfl⟩ := hxy
          refine ⟨d, i, c, hd, hi, hcc, rfl, ?_⟩
          have h9 := key_dot (x := ⟨d, i, c⟩) ⟨hd, hi, hcc⟩
          dsimp only at h9
          rw [h9] at h0
          exact (Option.some.inj h0).symm
    all_goals simp [Value.formed, Tryz.underlying35] at hf
end Go.Proofs.YtaodjnkjjmhecaaGreatDoor
