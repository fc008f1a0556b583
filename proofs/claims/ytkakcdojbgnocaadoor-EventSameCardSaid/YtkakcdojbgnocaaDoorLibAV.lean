/- Contracts and plain words that the laws' proofs stand on, put together. -/
import Derived.Test.YtkakcdojbgnocaaDoorLibAU
import Derived.Test.YtkakcdojbgnocaaDoorEvSame
import Derived.Test.YtkakcdojbgnocaaDoorLibAA
import Derived.Test.YtkakcdojbgnocaaDoorLibAS
import Derived.Test.YtkakcdojbgnocaaDoorLibAP
/- Contracts of layer 20: the program's own events. -/
namespace Go.Proofs.YtkakcdojbgnocaaDoor
open Go.RowKit
set_option linter.unusedVariables false

/-- The table that the program reads. -/
abbrev ETb (w : World) : Prop := PTab Tryd.prog w
theorem ETb.below {w w' : World} (h : ETb w) (hb : Below w.heap.size w w') : ETb w' := PTab.below h hb

theorem eventRightC (e : EventN) (a : Option Addr) (n c : Nat) (w : World) (h : RowOf encD 3 w a n c e.over) (hl : lightE e = true) (hT : ETb w) :
    Calls Tryd.prog 11 #[.agg #[.int .i64 e.dot.dev, .int .i64 e.dot.inc, .int .i64 e.dot.seq, .int .i64 e.stamp.wall, .int .i64 e.stamp.count, .int .i64 e.stamp.dev, .int .i64 e.kind, .string (str e.item.name), .string (str e.item.dom), .string (str e.item.path), .string (str e.item.val), .bool e.item.host, .bool e.item.sec, .bool e.item.http, .bool e.item.pers, .int .i64 e.item.exp, .int .i64 e.item.made, .int .i64 e.item.used, .slice a n c]] w fun en w' => en = .returned (.bool (rightE e)) ∧ Below w.heap.size w w' :=
  eventRightC0 e a n c w h hl hT

theorem eventSameC (e f : EventN) (a b : Option Addr) (n c m d : Nat) (w : World) (h : RowOf encD 3 w a n c e.over) (k : RowOf encD 3 w b m d f.over) (hl : lightE e = true) (kl : lightE f = true) (hT : ETb w) :
    Calls Tryd.prog 8 #[.agg #[.int .i64 e.dot.dev, .int .i64 e.dot.inc, .int .i64 e.dot.seq, .int .i64 e.stamp.wall, .int .i64 e.stamp.count, .int .i64 e.stamp.dev, .int .i64 e.kind, .string (str e.item.name), .string (str e.item.dom), .string (str e.item.path), .string (str e.item.val), .bool e.item.host, .bool e.item.sec, .bool e.item.http, .bool e.item.pers, .int .i64 e.item.exp, .int .i64 e.item.made, .int .i64 e.item.used, .slice a n c], .agg #[.int .i64 f.dot.dev, .int .i64 f.dot.inc, .int .i64 f.dot.seq, .int .i64 f.stamp.wall, .int .i64 f.stamp.count, .int .i64 f.stamp.dev, .int .i64 f.kind, .string (str f.item.name), .string (str f.item.dom), .string (str f.item.path), .string (str f.item.val), .bool f.item.host, .bool f.item.sec, .bool f.item.http, .bool f.item.pers, .int .i64 f.item.exp, .int .i64 f.item.made, .int .i64 f.item.used, .slice b m d]] w fun en w' => en = .returned (.bool (sameE e f)) ∧ Below w.heap.size w w' :=
  eventSameC0 e f a b n c m d w h k

theorem eventCloneC (e : EventN) (a : Option Addr) (n c : Nat) (w : World) (h : RowOf encD 3 w a n c e.over) (hl : lightE e = true) (hT : ETb w) :
    Calls Tryd.prog 7 #[.agg #[.int .i64 e.dot.dev, .int .i64 e.dot.inc, .int .i64 e.dot.seq, .int .i64 e.stamp.wall, .int .i64 e.stamp.count, .int .i64 e.stamp.dev, .int .i64 e.kind, .string (str e.item.name), .string (str e.item.dom), .string (str e.item.path), .string (str e.item.val), .bool e.item.host, .bool e.item.sec, .bool e.item.http, .bool e.item.pers, .int .i64 e.item.exp, .int .i64 e.item.made, .int .i64 e.item.used, .slice a n c]] w fun en w' => ∃ b d, en = .returned (.agg #[.int .i64 e.dot.dev, .int .i64 e.dot.inc, .int .i64 e.dot.seq, .int .i64 e.stamp.wall, .int .i64 e.stamp.count, .int .i64 e.stamp.dev, .int .i64 e.kind, .string (str e.item.name), .string (str e.item.dom), .string (str e.item.path), .string (str e.item.val), .bool e.item.host, .bool e.item.sec, .bool e.item.http, .bool e.item.pers, .int .i64 e.item.exp, .int .i64 e.item.made, .int .i64 e.item.used, .slice b n d]) ∧ OwnZ encD 3 w.heap.size 25 b n d e.over w' ∧ Below w.heap.size w w' :=
  eventCloneC0 e a n c w h hl

theorem eventBytesC (e : EventN) (a : Option Addr) (n c : Nat) (w : World) (h : RowOf encD 3 w a n c e.over) (hl : lightE e = true) (hT : ETb w) :
    Calls Tryd.prog 9 #[.agg #[.int .i64 e.dot.dev, .int .i64 e.dot.inc, .int .i64 e.dot.seq, .int .i64 e.stamp.wall, .int .i64 e.stamp.count, .int .i64 e.stamp.dev, .int .i64 e.kind, .string (str e.item.name), .string (str e.item.dom), .string (str e.item.path), .string (str e.item.val), .bool e.item.host, .bool e.item.sec, .bool e.item.http, .bool e.item.pers, .int .i64 e.item.exp, .int .i64 e.item.made, .int .i64 e.item.used, .slice a n c]] w fun en w' => ∃ b d, en = .returned (.tuple #[.slice b (putE e).length d, .int .i64 (if rightE e = true then 0 else 1)]) ∧ Owned w.heap.size 5 b (putE e).length d ((putE e).map (Value.int .u8)) w' ∧ Below w.heap.size w w' :=
  eventBytesC0 e a n c w h hl hT

end Go.Proofs.YtkakcdojbgnocaaDoor

/- Layer 20's laws, walked: the example; which events may be. -/
namespace Go.Proofs.YtkakcdojbgnocaaDoor
open Go.RowKit
set_option linter.unusedVariables false

def noneE : EventN := ⟨⟨1, 1, 2⟩, ⟨5, 0, 1⟩, 2, ItemL.none, []⟩
def oneE : EventN := ⟨⟨1, 1, 2⟩, ⟨5, 0, 1⟩, 2, ItemL.none, [⟨0, 1, 9⟩]⟩
theorem none_right : rightE noneE = false := by decide +kernel
theorem one_right : rightE oneE = true := by decide +kernel
theorem one_len : (bytesE oneE).length = 11 := by
  have e : bytesE oneE = short 1 ++ (short 1 ++ short 2) ++ (short 5 ++ (short 0 ++ short 1)) ++ [((0 : Nat) : Int)] ++ short 1 ++ (short 0 ++ (short 1 ++ short 9) ++ []) ++ [] := rfl
  rw [e, short_lt 1 (by decide), short_lt 2 (by decide), short_lt 5 (by decide), short_lt 0 (by decide), short_lt 9 (by decide)]
  rfl

set_option maxHeartbeats 2000000 in
set_option maxRecDepth 100000 in
theorem awake20C (w : World) (hT : ETb w) : Calls Tryd.prog 5 #[] w fun e w' => e = .returned (.bool true) ∧ Below w.heap.size w w' := by
  have HR0 : ∀ v, ETb v → Calls Tryd.prog 11 #[.agg #[.int .i64 1, .int .i64 1, .int .i64 2, .int .i64 5, .int .i64 0, .int .i64 1, .int .i64 2, .string ⟨#[]⟩, .string ⟨#[]⟩, .string ⟨#[]⟩, .string ⟨#[]⟩, .bool false, .bool false, .bool false, .bool false, .int .i64 0, .int .i64 0, .int .i64 0, .slice none 0 0]] v fun en w' => en = .returned (.bool false) ∧ Below v.heap.size v w' := fun v hv => by
    have := eventRightC noneE none 0 0 v ((OwnZ.none encD 3 v.heap.size 25 v).row encD_len) (by decide) hv
    rw [none_right] at this
    exact this
  have HR1 : ∀ b v, ETb v → RowOf encD 3 v (some ⟨b, 0, none⟩) 1 1 oneE.over → Calls Tryd.prog 11 #[.agg #[.int .i64 1, .int .i64 1, .int .i64 2, .int .i64 5, .int .i64 0, .int .i64 1, .int .i64 2, .string ⟨#[]⟩, .string ⟨#[]⟩, .string ⟨#[]⟩, .string ⟨#[]⟩, .bool false, .bool false, .bool false, .bool false, .int .i64 0, .int .i64 0, .int .i64 0, .slice (some ⟨b, 0, none⟩) 1 1]] v fun en w' => en = .returned (.bool true) ∧ Below v.heap.size v w' := fun b v hv hr => by
    have := eventRightC oneE (some ⟨b, 0, none⟩) 1 1 v hr (by decide) hv
    rw [one_right] at this
    exact this
  have HB1 : ∀ b v, ETb v → RowOf encD 3 v (some ⟨b, 0, none⟩) 1 1 oneE.over → Calls Tryd.prog 9 #[.agg #[.int .i64 1, .int .i64 1, .int .i64 2, .int .i64 5, .int .i64 0, .int .i64 1, .int .i64 2, .string ⟨#[]⟩, .string ⟨#[]⟩, .string ⟨#[]⟩, .string ⟨#[]⟩, .bool false, .bool false, .bool false, .bool false, .int .i64 0, .int .i64 0, .int .i64 0, .slice (some ⟨b, 0, none⟩) 1 1]] v fun en w' => (∃ q d, en = .returned (.tuple #[.slice q 11 d, .int .i64 0])) ∧ Below v.heap.size v w' := fun b v hv hr => by
    have := eventBytesC oneE (some ⟨b, 0, none⟩) 1 1 v hr (by decide) hv
    have e1 : (putE oneE).length = 11 := by unfold putE; rw [if_pos one_right, one_len]
    rw [e1, one_right] at this
    refine this.mono ?_
    rintro en w' ⟨q, d, rfl, _, hx⟩
    exact ⟨⟨q, d, rfl⟩, hx⟩
  have o1 := ObjAt.new w #[.int .i64 1, .int .i64 1, .int .i64 2, .int .i64 5, .int .i64 0, .int .i64 1, .int .i64 2, .string ⟨#[]⟩, .string ⟨#[]⟩, .string ⟨#[]⟩, .string ⟨#[]⟩, .bool false, .bool false, .bool false, .bool false, .int .i64 0, .int .i64 0, .int .i64 0, .slice none 0 0] 34
  have b1 := below_alloc w (.cells #[.int .i64 1, .int .i64 1, .int .i64 2, .int .i64 5, .int .i64 0, .int .i64 1, .int .i64 2, .string ⟨#[]⟩, .string ⟨#[]⟩, .string ⟨#[]⟩, .string ⟨#[]⟩, .bool false, .bool false, .bool false, .bool false, .int .i64 0, .int .i64 0, .int .i64 0, .slice none 0 0] 34)
  have hlt1 := o1.lt
  have hT1 := hT.below b1
  generalize hw1 : w.alloc (.cells #[.int .i64 1, .int .i64 1, .int .i64 2, .int .i64 5, .int .i64 0, .int .i64 1, .int .i64 2, .string ⟨#[]⟩, .string ⟨#[]⟩, .string ⟨#[]⟩, .string ⟨#[]⟩, .bool false, .bool false, .bool false, .bool false, .int .i64 0, .int .i64 0, .int .i64 0, .slice none 0 0] 34) = w1 at o1 b1 hlt1 hT1
  go_enter Tryd.func5, Tryd.ntmps5
  go_wp2_with (first
    | (refine wpList_storeNew rfl 34 _ _ rfl #[.int .i64 0, .int .i64 0, .int .i64 0, .int .i64 0, .int .i64 0, .int .i64 0, .int .i64 0, .string ⟨#[]⟩, .string ⟨#[]⟩, .string ⟨#[]⟩, .string ⟨#[]⟩, .bool false, .bool false, .bool false, .bool false, .int .i64 0, .int .i64 0, .int .i64 0, .slice none 0 0] [.int .i64 1, .int .i64 1, .int .i64 2, .int .i64 5, .int .i64 0, .int .i64 1, .int .i64 2, .string ⟨#[]⟩, .string ⟨#[]⟩, .string ⟨#[]⟩, .string ⟨#[]⟩, .bool false, .bool false, .bool false, .bool false, .int .i64 0, .int .i64 0, .int .i64 0, .slice none 0 0] rfl rfl (by kernel_rfl) rfl rfl ?_; rw [show w.alloc (.cells ([.int .i64 1, .int .i64 1, .int .i64 2, .int .i64 5, .int .i64 0, .int .i64 1, .int .i64 2, .string ⟨#[]⟩, .string ⟨#[]⟩, .string ⟨#[]⟩, .string ⟨#[]⟩, .bool false, .bool false, .bool false, .bool false, .int .i64 0, .int .i64 0, .int .i64 0, .slice none 0 0] : List Value).toArray 34) = w1 from hw1])
    | (refine wpList_loadObj rfl 34 _ rfl w.heap.size _ rfl o4 Tryd.isAgg34 Tryd.sizeOf34 ?_)
    | (refine wpList_guard (by rfl) ?_; refine wpList_loadObj rfl 34 _ rfl w.heap.size _ rfl o4 Tryd.isAgg34 Tryd.sizeOf34 ?_)
    | (refine wpList_loadObj rfl 34 _ rfl w.heap.size _ rfl o1 Tryd.isAgg34 Tryd.sizeOf34 ?_)
    | (go_at_call 11; (with_reducible refine (HR0 _ hT1).mono ?_); rintro e w2 ⟨rfl, hx2⟩; have o2 := o1.below hx2 hlt1; have b2 := b1.trans (hx2.mono b1.size); have bz := below_alloc w2 (.cells #[.int .i64 0, .int .i64 1, .int .i64 9] 25); have o2z := o2.below bz o2.lt; have c18 := o2z.cell 18 rfl; have f18 := o2z.free 18; have o3 : ObjAt _ w.heap.size [.int .i64 1, .int .i64 1, .int .i64 2, .int .i64 5, .int .i64 0, .int .i64 1, .int .i64 2, .string ⟨#[]⟩, .string ⟨#[]⟩, .string ⟨#[]⟩, .string ⟨#[]⟩, .bool false, .bool false, .bool false, .bool false, .int .i64 0, .int .i64 0, .int .i64 0, .slice (some ⟨w2.heap.size, 0, none⟩) 1 1] := o2z.set 18 (.slice (some ⟨w2.heap.size, 0, none⟩) 1 1); have b3 : Below w.heap.size w _ := (b2.trans (bz.mono b2.size)).setCell (p := ⟨w.heap.size, 18, none⟩) (Nat.le_refl _) (.slice (some ⟨w2.heap.size, 0, none⟩) 1 1); have hlt2 := o2.lt; have hr3 := ((OwnZ.new encD_len oneE.over #[.int .i64 0, .int .i64 1, .int .i64 9] rfl 1 rfl (by unfold maxLen; omega) 25 w2).setCell (p := ⟨w.heap.size, 18, none⟩) (apart_iff.2 fun hk => by have e1 : w2.heap.size = w.heap.size := at_some.1 hk; omega) (.slice (some ⟨w2.heap.size, 0, none⟩) 1 1)).row encD_len; obtain ⟨w4, hw4⟩ : ∃ w4, (w2.alloc (.cells #[.int .i64 0, .int .i64 1, .int .i64 9] 25)).setCell ⟨w.heap.size, 18, none⟩ (.slice (some ⟨w2.heap.size, 0, none⟩) 1 1) = w4 := ⟨_, rfl⟩; rw [hw4] at o3 b3 hr3; have o4 := o3; have hT4 := hT.below b3; clear o1 o2 o2z hT1 b1 HR0 hx2 bz b2)
    | (go_at_call 9; (with_reducible refine (HB1 _ _ hT4 hr3).mono ?_); rintro e w5 ⟨⟨q5, d5, rfl⟩, hx5⟩; have o4 := o4.below hx5 o4.lt; have b5 := b3.trans (hx5.mono b3.size); have hT5 := hT.below b5; have hr5 := hr3.below hx5; clear hT4 hr3 hx5 o3 b3 HB1 c18 f18)
    | (go_at_call 11; (with_reducible refine (HR1 _ _ hT5 hr5).mono ?_); rintro e w6 ⟨rfl, hx6⟩; have b6 := b5.trans (hx6.mono b5.size)))
  go_ret
  exact ⟨rfl, b6⟩
end Go.Proofs.YtkakcdojbgnocaaDoor

/- Layer 20's laws, walked: which events may be. -/
namespace Go.Proofs.YtkakcdojbgnocaaDoor
open Go.RowKit
set_option linter.unusedVariables false

theorem light_len {e : EventN} (hl : lightE e = true) : e.over.length ≤ 100 ∧ e.item.name.length ≤ 2000 ∧ e.item.dom.length ≤ 2000 ∧ e.item.path.length ≤ 2000 ∧ e.item.val.length ≤ 2000 := by
  unfold lightE at hl
  simpa only [Bool.and_eq_true, decide_eq_true_iff] using hl

end Go.Proofs.YtkakcdojbgnocaaDoor
