/- Contracts and plain words that the laws' proofs stand on, put together. -/
import Derived.Test.YtkakcdojbgnocaaGreatDoorLibAT
import Derived.Test.YtkakcdojbgnocaaGreatDoorEvSame
import Derived.Test.YtkakcdojbgnocaaGreatDoorLibAA
import Derived.Test.YtkakcdojbgnocaaGreatDoorEventRef2
import Derived.Test.YtkakcdojbgnocaaGreatDoorCookieRef2
/- Contracts of layer 20: the program's own events. -/
namespace Go.Proofs.YtkakcdojbgnocaaGreatDoor
open Go.RowKit
set_option linter.unusedVariables false

/-- The table that the program reads. -/
abbrev ETb (w : World) : Prop := PTab Tryz.prog w
theorem ETb.below {w w' : World} (h : ETb w) (hb : Below w.heap.size w w') : ETb w' := PTab.below h hb

theorem eventRightC (e : EventN) (a : Option Addr) (n c : Nat) (w : World) (h : RowOf encD 3 w a n c e.over) (hl : lightE e = true) (hT : ETb w) :
    Calls Tryz.prog 7 #[.agg #[.int .i64 e.dot.dev, .int .i64 e.dot.inc, .int .i64 e.dot.seq, .int .i64 e.stamp.wall, .int .i64 e.stamp.count, .int .i64 e.stamp.dev, .int .i64 e.kind, .string (str e.item.name), .string (str e.item.dom), .string (str e.item.path), .string (str e.item.val), .bool e.item.host, .bool e.item.sec, .bool e.item.http, .bool e.item.pers, .int .i64 e.item.exp, .int .i64 e.item.made, .int .i64 e.item.used, .slice a n c]] w fun en w' => en = .returned (.bool (rightE e)) ∧ Below w.heap.size w w' :=
  eventRightC0 e a n c w h hl hT

theorem eventItemC (e : EventN) (a : Option Addr) (n c : Nat) (w : World) (h : RowOf encD 3 w a n c e.over) (hT : ETb w) :
    Calls Tryz.prog 9 #[.agg #[.int .i64 e.dot.dev, .int .i64 e.dot.inc, .int .i64 e.dot.seq, .int .i64 e.stamp.wall, .int .i64 e.stamp.count, .int .i64 e.stamp.dev, .int .i64 e.kind, .string (str e.item.name), .string (str e.item.dom), .string (str e.item.path), .string (str e.item.val), .bool e.item.host, .bool e.item.sec, .bool e.item.http, .bool e.item.pers, .int .i64 e.item.exp, .int .i64 e.item.made, .int .i64 e.item.used, .slice a n c]] w fun en w' => en = .returned (.agg #[.string (str e.item.name), .string (str e.item.dom), .string (str e.item.path), .string (str e.item.val), .bool e.item.host, .bool e.item.sec, .bool e.item.http, .bool e.item.pers, .int .i64 e.item.exp, .int .i64 e.item.made, .int .i64 e.item.used]) ∧ Below w.heap.size w w' :=
  itemE e a n c w

theorem eventBytesC (e : EventN) (a : Option Addr) (n c : Nat) (w : World) (h : RowOf encD 3 w a n c e.over) (hl : lightE e = true) (hT : ETb w) :
    Calls Tryz.prog 10 #[.agg #[.int .i64 e.dot.dev, .int .i64 e.dot.inc, .int .i64 e.dot.seq, .int .i64 e.stamp.wall, .int .i64 e.stamp.count, .int .i64 e.stamp.dev, .int .i64 e.kind, .string (str e.item.name), .string (str e.item.dom), .string (str e.item.path), .string (str e.item.val), .bool e.item.host, .bool e.item.sec, .bool e.item.http, .bool e.item.pers, .int .i64 e.item.exp, .int .i64 e.item.made, .int .i64 e.item.used, .slice a n c]] w fun en w' => ∃ b d, en = .returned (.tuple #[.slice b (putE e).length d, .int .i64 (if rightE e = true then 0 else 1)]) ∧ Owned w.heap.size 5 b (putE e).length d ((putE e).map (Value.int .u8)) w' ∧ Below w.heap.size w w' :=
  eventBytesC0 e a n c w h hl hT

theorem eventPutC (base p : Nat) (q : Option Addr) (l : List Int) (e : EventN) (a : Option Addr) (n c : Nat) (w : World) (hw : Wr 5 base p q l w) (hlen : l.length ≤ 100000) (hbase : base ≤ w.heap.size) (h : ∀ v, Below base w v → RowOf encD 3 v a n c e.over) (hl : lightE e = true) (hT : ETb w) :
    Calls Tryz.prog 11 #[.pointer (some ⟨p, 0, none⟩), .agg #[.int .i64 e.dot.dev, .int .i64 e.dot.inc, .int .i64 e.dot.seq, .int .i64 e.stamp.wall, .int .i64 e.stamp.count, .int .i64 e.stamp.dev, .int .i64 e.kind, .string (str e.item.name), .string (str e.item.dom), .string (str e.item.path), .string (str e.item.val), .bool e.item.host, .bool e.item.sec, .bool e.item.http, .bool e.item.pers, .int .i64 e.item.exp, .int .i64 e.item.made, .int .i64 e.item.used, .slice a n c]] w (PutGives base p q (l ++ putE e) w) :=
  eventPutC0 base p q l e a n c w hw hlen hbase h hl hT

theorem eventReadC (e : EventN) (b : Option Addr) (m d : Nat) (w : World) (hr : rightE e = true) (hl : lightE e = true) (hm : (bytesE e).length = m) (hb : Reads w b ((bytesE e).map (Value.int .u8))) (hd : m ≤ d) (hdm : d ≤ maxLen) (hT : ETb w) :
    Calls Tryz.prog 13 #[.slice b m d] w fun en w' => ∃ a c, en = .returned (.tuple #[.agg #[.int .i64 e.dot.dev, .int .i64 e.dot.inc, .int .i64 e.dot.seq, .int .i64 e.stamp.wall, .int .i64 e.stamp.count, .int .i64 e.stamp.dev, .int .i64 e.kind, .string (str e.item.name), .string (str e.item.dom), .string (str e.item.path), .string (str e.item.val), .bool e.item.host, .bool e.item.sec, .bool e.item.http, .bool e.item.pers, .int .i64 e.item.exp, .int .i64 e.item.made, .int .i64 e.item.used, .slice a e.over.length c], .int .i64 0]) ∧ RowOf encD 3 w' a e.over.length c e.over ∧ Below w.heap.size w w' :=
  eventReadC0 e b m d w hr hl hm hb hd hdm hT
end Go.Proofs.YtkakcdojbgnocaaGreatDoor

/- Layer 20's laws, walked: the example; which events may be. -/
namespace Go.Proofs.YtkakcdojbgnocaaGreatDoor
open Go.RowKit
set_option linter.unusedVariables false

def noneE : EventN := ⟨⟨1, 1, 2⟩, ⟨5, 0, 1⟩, 2, ItemL.none, []⟩
def oneE : EventN := ⟨⟨1, 1, 2⟩, ⟨5, 0, 1⟩, 2, ItemL.none, [⟨0, 1, 9⟩]⟩
theorem none_right : rightE noneE = false := by decide +kernel
theorem one_right : rightE oneE = true := by decide +kernel
theorem one_len : (bytesE oneE).length = 11 := by
  have e : bytesE oneE = short 1 ++ (short 1 ++ short 2) ++ (short 5 ++ (short 0 ++ short 1)) ++ [((0 : Nat) : Int)] ++ short 1 ++ (short 0 ++ (short 1 ++ short 9) ++ []) ++ [] := rfl
  rw [e, short_lt 1 (by decide), short_lt 2 (by decide), short_lt 5 (by decide), short_lt 0 (by decide), short_lt 9 (by decide)]
  rfl

set_option maxHeartbeats 2000000 in
set_option maxRecDepth 100000 in
theorem awake20C (w : World) (hT : ETb w) : Calls Tryz.prog 6 #[] w fun e w' => e = .returned (.bool true) ∧ Below w.heap.size w w' := by
  have HR0 : ∀ v, ETb v → Calls Tryz.prog 7 #[.agg #[.int .i64 1, .int .i64 1, .int .i64 2, .int .i64 5, .int .i64 0, .int .i64 1, .int .i64 2, .string ⟨#[]⟩, .string ⟨#[]⟩, .string ⟨#[]⟩, .string ⟨#[]⟩, .bool false, .bool false, .bool false, .bool false, .int .i64 0, .int .i64 0, .int .i64 0, .slice none 0 0]] v fun en w' => en = .returned (.bool false) ∧ Below v.heap.size v w' := fun v hv => by
    have := eventRightC noneE none 0 0 v ((OwnZ.none encD 3 v.heap.size 25 v).row encD_len) (by decide) hv
    rw [none_right] at this
    exact this
  have HR1 : ∀ b v, ETb v → RowOf encD 3 v (some ⟨b, 0, none⟩) 1 1 oneE.over → Calls Tryz.prog 7 #[.agg #[.int .i64 1, .int .i64 1, .int .i64 2, .int .i64 5, .int .i64 0, .int .i64 1, .int .i64 2, .string ⟨#[]⟩, .string ⟨#[]⟩, .string ⟨#[]⟩, .string ⟨#[]⟩, .bool false, .bool false, .bool false, .bool false, .int .i64 0, .int .i64 0, .int .i64 0, .slice (some ⟨b, 0, none⟩) 1 1]] v fun en w' => en = .returned (.bool true) ∧ Below v.heap.size v w' := fun b v hv hr => by
    have := eventRightC oneE (some ⟨b, 0, none⟩) 1 1 v hr (by decide) hv
    rw [one_right] at this
    exact this
  have HB1 : ∀ b v, ETb v → RowOf encD 3 v (some ⟨b, 0, none⟩) 1 1 oneE.over → Calls Tryz.prog 10 #[.agg #[.int .i64 1, .int .i64 1, .int .i64 2, .int .i64 5, .int .i64 0, .int .i64 1, .int .i64 2, .string ⟨#[]⟩, .string ⟨#[]⟩, .string ⟨#[]⟩, .string ⟨#[]⟩, .bool false, .bool false, .bool false, .bool false, .int .i64 0, .int .i64 0, .int .i64 0, .slice (some ⟨b, 0, none⟩) 1 1]] v fun en w' => (∃ q d, en = .returned (.tuple #[.slice q 11 d, .int .i64 0])) ∧ Below v.heap.size v w' := fun b v hv hr => by
    have := eventBytesC oneE (some ⟨b, 0, none⟩) 1 1 v hr (by decide) hv
    have e1 : (putE oneE).length = 11 := by unfold putE; rw [if_pos one_right, one_len]
    rw [e1, one_right] at this
    refine this.mono ?_
    rintro en w' ⟨q, d, rfl, _, hx⟩
    exact ⟨⟨q, d, rfl⟩, hx⟩
  have o1 := ObjAt.new w #[.int .i64 1, .int .i64 1, .int .i64 2, .int .i64 5, .int .i64 0, .int .i64 1, .int .i64 2, .string ⟨#[]⟩, .string ⟨#[]⟩, .string ⟨#[]⟩, .string ⟨#[]⟩, .bool false, .bool false, .bool false, .bool false, .int .i64 0, .int .i64 0, .int .i64 0, .slice none 0 0] 34
  have b1 := below_alloc w (.cells #[.int .i64 1, .int .i64 1, .int .i64 2, .int .i64 5, .int .i64 0, .int .i64 1, .int .i64 2, .string ⟨#[]⟩, .string ⟨#[]⟩, .string ⟨#[]⟩, .string ⟨#[]⟩, .bool false, .bool false, .bool false, .bool false, .int .i64 0, .int .i64 0, .int .i64 0, .slice none 0 0] 34)
  have hlt1 := o1.lt
  have hT1 := hT.below b1
  generalize hw1 : w.alloc (.cells #[.int .i64 1, .int .i64 1, .int .i64 2, .int .i64 5, .int .i64 0, .int .i64 1, .int .i64 2, .string ⟨#[]⟩, .string ⟨#[]⟩, .string ⟨#[]⟩, .string ⟨#[]⟩, .bool false, .bool false, .bool false, .bool false, .int .i64 0, .int .i64 0, .int .i64 0, .slice none 0 0] 34) = w1 at o1 b1 hlt1 hT1
  go_enter Tryz.func6, Tryz.ntmps6
  go_wp2_with (first
    | (refine wpList_storeNew rfl 34 _ _ rfl #[.int .i64 0, .int .i64 0, .int .i64 0, .int .i64 0, .int .i64 0, .int .i64 0, .int .i64 0, .string ⟨#[]⟩, .string ⟨#[]⟩, .string ⟨#[]⟩, .string ⟨#[]⟩, .bool false, .bool false, .bool false, .bool false, .int .i64 0, .int .i64 0, .int .i64 0, .slice none 0 0] [.int .i64 1, .int .i64 1, .int .i64 2, .int .i64 5, .int .i64 0, .int .i64 1, .int .i64 2, .string ⟨#[]⟩, .string ⟨#[]⟩, .string ⟨#[]⟩, .string ⟨#[]⟩, .bool false, .bool false, .bool false, .bool false, .int .i64 0, .int .i64 0, .int .i64 0, .slice none 0 0] rfl rfl (by kernel_rfl) rfl rfl ?_; rw [show w.alloc (.cells ([.int .i64 1, .int .i64 1, .int .i64 2, .int .i64 5, .int .i64 0, .int .i64 1, .int .i64 2, .string ⟨#[]⟩, .string ⟨#[]⟩, .string ⟨#[]⟩, .string ⟨#[]⟩, .bool false, .bool false, .bool false, .bool false, .int .i64 0, .int .i64 0, .int .i64 0, .slice none 0 0] : List Value).toArray 34) = w1 from hw1])
    | (refine wpList_loadObj rfl 34 _ rfl w.heap.size _ rfl o4 Tryz.isAgg34 Tryz.sizeOf34 ?_)
    | (refine wpList_guard (by rfl) ?_; refine wpList_loadObj rfl 34 _ rfl w.heap.size _ rfl o4 Tryz.isAgg34 Tryz.sizeOf34 ?_)
    | (refine wpList_loadObj rfl 34 _ rfl w.heap.size _ rfl o1 Tryz.isAgg34 Tryz.sizeOf34 ?_)
    | (go_at_call 7; (with_reducible refine (HR0 _ hT1).mono ?_); rintro e w2 ⟨rfl, hx2⟩; have o2 := o1.below hx2 hlt1; have b2 := b1.trans (hx2.mono b1.size); have bz := below_alloc w2 (.cells #[.int .i64 0, .int .i64 1, .int .i64 9] 25); have o2z := o2.below bz o2.lt; have c18 := o2z.cell 18 rfl; have f18 := o2z.free 18; have o3 : ObjAt _ w.heap.size [.int .i64 1, .int .i64 1, .int .i64 2, .int .i64 5, .int .i64 0, .int .i64 1, .int .i64 2, .string ⟨#[]⟩, .string ⟨#[]⟩, .string ⟨#[]⟩, .string ⟨#[]⟩, .bool false, .bool false, .bool false, .bool false, .int .i64 0, .int .i64 0, .int .i64 0, .slice (some ⟨w2.heap.size, 0, none⟩) 1 1] := o2z.set 18 (.slice (some ⟨w2.heap.size, 0, none⟩) 1 1); have b3 : Below w.heap.size w _ := (b2.trans (bz.mono b2.size)).setCell (p := ⟨w.heap.size, 18, none⟩) (Nat.le_refl _) (.slice (some ⟨w2.heap.size, 0, none⟩) 1 1); have hlt2 := o2.lt; have hr3 := ((OwnZ.new encD_len oneE.over #[.int .i64 0, .int .i64 1, .int .i64 9] rfl 1 rfl (by unfold maxLen; omega) 25 w2).setCell (p := ⟨w.heap.size, 18, none⟩) (apart_iff.2 fun hk => by have e1 : w2.heap.size = w.heap.size := at_some.1 hk; omega) (.slice (some ⟨w2.heap.size, 0, none⟩) 1 1)).row encD_len; obtain ⟨w4, hw4⟩ : ∃ w4, (w2.alloc (.cells #[.int .i64 0, .int .i64 1, .int .i64 9] 25)).setCell ⟨w.heap.size, 18, none⟩ (.slice (some ⟨w2.heap.size, 0, none⟩) 1 1) = w4 := ⟨_, rfl⟩; rw [hw4] at o3 b3 hr3; have o4 := o3; have hT4 := hT.below b3; clear o1 o2 o2z hT1 b1 HR0 hx2 bz b2)
    | (go_at_call 10; (with_reducible refine (HB1 _ _ hT4 hr3).mono ?_); rintro e w5 ⟨⟨q5, d5, rfl⟩, hx5⟩; have o4 := o4.below hx5 o4.lt; have b5 := b3.trans (hx5.mono b3.size); have hT5 := hT.below b5; have hr5 := hr3.below hx5; clear hT4 hr3 hx5 o3 b3 HB1 c18 f18)
    | (go_at_call 7; (with_reducible refine (HR1 _ _ hT5 hr5).mono ?_); rintro e w6 ⟨rfl, hx6⟩; have b6 := b5.trans (hx6.mono b5.size)))
  go_ret
  exact ⟨rfl, b6⟩
end Go.Proofs.YtkakcdojbgnocaaGreatDoor

/- Layer 20's laws, walked: which events may be. -/
namespace Go.Proofs.YtkakcdojbgnocaaGreatDoor
open Go.RowKit
set_option linter.unusedVariables false

theorem light_len {e : EventN} (hl : lightE e = true) : e.over.length ≤ 100 ∧ e.item.name.length ≤ 2000 ∧ e.item.dom.length ≤ 2000 ∧ e.item.path.length ≤ 2000 ∧ e.item.val.length ≤ 2000 := by
  unfold lightE at hl
  simpa only [Bool.and_eq_true, decide_eq_true_iff] using hl
/-- The reference's answer for a light event. -/
theorem refERightL (e : EventN) (a : Option Addr) (n c : Nat) (w : World) (h : RowOf encD 3 w a n c e.over) (hl : lightE e = true) :
    Calls Tryz.prog 8 #[.agg #[.int .i64 e.dot.dev, .int .i64 e.dot.inc, .int .i64 e.dot.seq, .int .i64 e.stamp.wall, .int .i64 e.stamp.count, .int .i64 e.stamp.dev, .int .i64 e.kind, .string (str e.item.name), .string (str e.item.dom), .string (str e.item.path), .string (str e.item.val), .bool e.item.host, .bool e.item.sec, .bool e.item.http, .bool e.item.pers, .int .i64 e.item.exp, .int .i64 e.item.made, .int .i64 e.item.used, .slice a n c]] w fun en w' => en = .returned (.bool (rightE e)) ∧ Below w.heap.size w w' := by
  obtain ⟨g0, g1, g2, g3, g4⟩ := light_len hl
  exact refERightC e a n c w h fun v => refRightXC e.item.name e.item.dom e.item.path e.item.val e.item.host e.item.sec e.item.http e.item.pers e.item.exp e.item.made e.item.used v (by omega) (by omega) (by omega) (by omega)

set_option maxHeartbeats 2000000 in
set_option maxRecDepth 100000 in
theorem eventRight_walk (e : EventN) (a : Option Addr) (n c : Nat) (w : World) (h : RowOf encD 3 w a n c e.over) (h1 : e.item.name.length ≤ maxLen) (h2 : e.item.dom.length ≤ maxLen) (h3 : e.item.path.length ≤ maxLen) (h4 : e.item.val.length ≤ maxLen) (hT : ETb w) :
    Calls Tryz.prog 3 #[.agg #[.int .i64 e.dot.dev, .int .i64 e.dot.inc, .int .i64 e.dot.seq, .int .i64 e.stamp.wall, .int .i64 e.stamp.count, .int .i64 e.stamp.dev, .int .i64 e.kind, .string (str e.item.name), .string (str e.item.dom), .string (str e.item.path), .string (str e.item.val), .bool e.item.host, .bool e.item.sec, .bool e.item.http, .bool e.item.pers, .int .i64 e.item.exp, .int .i64 e.item.made, .int .i64 e.item.used, .slice a n c]] w fun en w' => en = .returned (.bool true) ∧ Below w.heap.size w w' := by
  have HL := fun v => refELightC e a n c v h.leq h1 h2 h3 h4
  obtain ⟨A, hA⟩ : ∃ A, (#[.int .i64 e.dot.dev, .int .i64 e.dot.inc, .int .i64 e.dot.seq, .int .i64 e.stamp.wall, .int .i64 e.stamp.count, .int .i64 e.stamp.dev, .int .i64 e.kind, .string (str e.item.name), .string (str e.item.dom), .string (str e.item.path), .string (str e.item.val), .bool e.item.host, .bool e.item.sec, .bool e.item.http, .bool e.item.pers, .int .i64 e.item.exp, .int .i64 e.item.made, .int .i64 e.item.used, .slice a n c] : Array Value) = A := ⟨_, rfl⟩
  have hsz : A.size = 19 := by rw [← hA]; rfl
  have hk : (A.toList.drop 7).take 3 = [.string (str e.item.name), .string (str e.item.dom), .string (str e.item.path)] := by rw [← hA]; rfl
  have hc : (A.toList.drop 10).take 8 = [.string (str e.item.val), .bool e.item.host, .bool e.item.sec, .bool e.item.http, .bool e.item.pers, .int .i64 e.item.exp, .int .i64 e.item.made, .int .i64 e.item.used] := by rw [← hA]; rfl
  have b1 := below_alloc w (.cells A 34)
  have o1 := ObjAt.new w A 34
  have hlt := o1.lt
  rw [hA]
  rw [hA] at HL
  generalize hw1 : w.alloc (.cells A 34) = w1 at *
  have hup := fun v (hv : Below w1.heap.size w1 v) => b1.trans (hv.mono b1.size)
  have hC1 := Below.refl w1.heap.size w1
  have HA := fun v hv => awake20C v (hT.below (hup v hv))
  cases hl : lightE e with
  | false =>
    rw [hl] at HL
    clear hk hc hl
    go_enter Tryz.func3, Tryz.ntmps3
    go_wp2_with (first
      | (refine wpList_loadAll rfl 34 _ rfl w.heap.size 19 A rfl o1 Tryz.isAgg34 Tryz.sizeOf34 hsz ?_)
      | (go_at_call 5; (with_reducible refine (HL _).mono ?_); rintro ex wx ⟨rfl, hx⟩; have hC1 := hC1.trans (hx.mono hC1.size); clear hx)
      | (go_at_call 6; (with_reducible refine (HA _ hC1).mono ?_); rintro ex wx ⟨rfl, hx⟩; have hC1 := hC1.trans (hx.mono hC1.size); clear hx))
    go_ret
    exact ⟨rfl, hup _ hC1⟩
  | true =>
    rw [hl] at HL
    have HP := fun v hv => eventRightC e a n c v (h.below (hup v hv)) hl (hT.below (hup v hv))
    have HI := fun v hv => eventItemC e a n c v (h.below (hup v hv)) (hT.below (hup v hv))
    have HR := fun v hv => refERightL e a n c v (h.below (hup v hv)) hl
    have hI := fun v => eqItem2 e.item e.item v
    have hii : sameI e.item e.item = true := sameI_iff.2 rfl
    simp only [hii] at hI
    rw [hA] at HP HI HR
    generalize rightE e = R at *
    clear hl hii h h1 h2 h3 h4 hT
    go_enter Tryz.func3, Tryz.ntmps3
    go_wp2_with (first
      | (refine wpList_loadAll rfl 34 _ rfl w.heap.size 19 A rfl o1 Tryz.isAgg34 Tryz.sizeOf34 hsz ?_)
      | (go_at_call 5; (with_reducible refine (HL _).mono ?_); rintro ex wx ⟨rfl, hx⟩; have hC1 := hC1.trans (hx.mono hC1.size); clear hx))
    have hC1 := hC1.drew
    refine wp_region_held_drew (S := fun w' => ObjAt w' w.heap.size A.toList) (by kernel_rfl) (o1.below hC1 hlt) (fun hHeld => ?_)
    refine wpAnyH_take (i := 0) rfl (by kernel_rfl) (by kernel_rfl) (by kernel_rfl) (fun _ _ _ h => h) (Or.inl ⟨by rfl, fun w' hS => execLoadAll 34 _ rfl w.heap.size 19 A rfl hS Tryz.isAgg34 Tryz.sizeOf34 hsz⟩) (by assumption) ?_
    try simp only [List.getElem_toArray, List.getElem_cons_zero, Act.put, List.setIfInBounds_toArray, List.set_cons_zero, List.set_cons_succ]
    refine wpAnyH_take (i := 2) rfl (by kernel_rfl) (by kernel_rfl) (by kernel_rfl) (fun _ _ _ h => h) (Or.inl ⟨by rfl, fun w' hS => execLoadAll 34 _ rfl w.heap.size 19 A rfl hS Tryz.isAgg34 Tryz.sizeOf34 hsz⟩) (by assumption) ?_
    try simp only [List.getElem_toArray, List.getElem_cons_zero, List.getElem_cons_succ, Act.put, List.setIfInBounds_toArray, List.set_cons_zero, List.set_cons_succ]
    refine wpAnyH_ready (rs := [1]) (by kernel_rfl) (by simp) ?_
    refine AllReadyH.cons (o := _) rfl (fun K hK => ?_) AllReadyH.nil
    go_simp
    go_at_call 7; (with_reducible refine (HP _ hC1).mono ?_); rintro ex wx ⟨rfl, hx⟩; have hC1 := hC1.trans (hx.mono hC1.size); clear hx
    dsimp only
    refine hK.out _ _ (o1.below hC1 hlt) (fun hHeld => ?_)
    clear hK K
    try simp only [List.getElem_toArray, List.getElem_cons_zero, List.getElem_cons_succ, Act.put, List.setIfInBounds_toArray, List.set_cons_zero, List.set_cons_succ]
    refine wpAnyH_ready (rs := [3]) (by kernel_rfl) (by simp) ?_
    refine AllReadyH.cons (o := _) rfl (fun K hK => ?_) AllReadyH.nil
    go_simp
    go_at_call 8; (with_reducible refine (HR _ hC1).mono ?_); rintro ex wx ⟨rfl, hx⟩; have hC1 := hC1.trans (hx.mono hC1.size); clear hx
    dsimp only
    refine hK.out _ _ (o1.below hC1 hlt) (fun hHeld => ?_)
    clear hK K
    try simp only [List.getElem_toArray, List.getElem_cons_zero, List.getElem_cons_succ, Act.put, List.setIfInBounds_toArray, List.set_cons_zero, List.set_cons_succ]
    first
      | (refine wpAnyH_take (i := 4) rfl (by kernel_rfl) (by kernel_rfl) (by kernel_rfl) (fun _ _ _ h => h) (Or.inr ⟨by rfl, rfl⟩) (by assumption) ?_)
      | (refine wpAnyH_take (i := 4) (v := ?vb1) rfl (by kernel_rfl) (by kernel_rfl) (by kernel_rfl) (fun _ _ _ h => h) (Or.inl ⟨by rfl, ?hyb1⟩) (by assumption) ?rb1; case hyb1 => (rintro w' hS; go_simp; try with_reducible rfl))
    try simp only [List.getElem_toArray, List.getElem_cons_zero, List.getElem_cons_succ, Act.put, List.setIfInBounds_toArray, List.set_cons_zero, List.set_cons_succ]
    first
      | (refine wpAnyH_take (i := 5) rfl (by kernel_rfl) (by kernel_rfl) (by kernel_rfl) (fun _ _ _ h => h) (Or.inr ⟨by rfl, rfl⟩) (by assumption) ?_)
      | (refine wpAnyH_take (i := 5) (v := ?vb2) rfl (by kernel_rfl) (by kernel_rfl) (by kernel_rfl) (fun _ _ _ h => h) (Or.inl ⟨by rfl, ?hyb2⟩) (by assumption) ?rb2; case hyb2 => (rintro w' hS; go_simp; try with_reducible rfl))
    try simp only [List.getElem_toArray, List.getElem_cons_zero, List.getElem_cons_succ, Act.put, List.setIfInBounds_toArray, List.set_cons_zero, List.set_cons_succ]
    refine wpAnyH_take (i := 6) rfl (by kernel_rfl) (by kernel_rfl) (by kernel_rfl) (fun _ _ _ h => h) (Or.inl ⟨by rfl, fun w' hS => execLoadAll 34 _ rfl w.heap.size 19 A rfl hS Tryz.isAgg34 Tryz.sizeOf34 hsz⟩) (by assumption) ?_
    try simp only [List.getElem_toArray, List.getElem_cons_zero, List.getElem_cons_succ, Act.put, List.setIfInBounds_toArray, List.set_cons_zero, List.set_cons_succ]
    first
      | (refine wpAnyH_take (i := 8) rfl (by kernel_rfl) (by kernel_rfl) (by kernel_rfl) (fun _ _ _ h => h) (Or.inr ⟨by rfl, rfl⟩) (by assumption) ?_)
      | (refine wpAnyH_take (i := 8) (v := ?vb3) rfl (by kernel_rfl) (by kernel_rfl) (by kernel_rfl) (fun _ _ _ h => h) (Or.inl ⟨by rfl, ?hyb3⟩) (by assumption) ?rb3; case hyb3 => (rintro w' hS; go_simp; try with_reducible rfl))
    try simp only [List.getElem_toArray, List.getElem_cons_zero, List.getElem_cons_succ, Act.put, List.setIfInBounds_toArray, List.set_cons_zero, List.set_cons_succ]
    refine wpAnyH_take (i := 9) rfl (by kernel_rfl) (by kernel_rfl) (by kernel_rfl) (fun _ _ _ h => h) (Or.inl ⟨by rfl, fun w' hS => execLoadPart 29 _ rfl w.heap.size 7 3 A _ rfl hS Tryz.isAgg29 Tryz.sizeOf29 hk rfl⟩) (by assumption) ?_
    try simp only [List.getElem_toArray, List.getElem_cons_zero, List.getElem_cons_succ, Act.put, List.setIfInBounds_toArray, List.set_cons_zero, List.set_cons_succ]
    first
      | (refine wpAnyH_take (i := 10) rfl (by kernel_rfl) (by kernel_rfl) (by kernel_rfl) (fun _ _ _ h => h) (Or.inr ⟨by rfl, rfl⟩) (by assumption) ?_)
      | (refine wpAnyH_take (i := 10) (v := ?vb4) rfl (by kernel_rfl) (by kernel_rfl) (by kernel_rfl) (fun _ _ _ h => h) (Or.inl ⟨by rfl, ?hyb4⟩) (by assumption) ?rb4; case hyb4 => (rintro w' hS; go_simp; try with_reducible rfl))
    try simp only [List.getElem_toArray, List.getElem_cons_zero, List.getElem_cons_succ, Act.put, List.setIfInBounds_toArray, List.set_cons_zero, List.set_cons_succ]
    refine wpAnyH_take (i := 11) rfl (by kernel_rfl) (by kernel_rfl) (by kernel_rfl) (fun _ _ _ h => h) (Or.inl ⟨by rfl, fun w' hS => execLoadPart 31 _ rfl w.heap.size 10 8 A _ rfl hS Tryz.isAgg31 Tryz.sizeOf31 hc rfl⟩) (by assumption) ?_
    try simp only [List.getElem_toArray, List.getElem_cons_zero, List.getElem_cons_succ, Act.put, List.setIfInBounds_toArray, List.set_cons_zero, List.set_cons_succ]
    first
      | (refine wpAnyH_take (i := 12) rfl (by kernel_rfl) (by kernel_rfl) (by kernel_rfl) (fun _ _ _ h => h) (Or.inr ⟨by rfl, rfl⟩) (by assumption) ?_)
      | (refine wpAnyH_take (i := 12) (v := ?vb5) rfl (by kernel_rfl) (by kernel_rfl) (by kernel_rfl) (fun _ _ _ h => h) (Or.inl ⟨by rfl, ?hyb5⟩) (by assumption) ?rb5; case hyb5 => (rintro w' hS; go_simp; try with_reducible rfl))
    try simp only [List.getElem_toArray, List.getElem_cons_zero, List.getElem_cons_succ, Act.put, List.setIfInBounds_toArray, List.set_cons_zero, List.set_cons_succ]
    refine wpAnyH_ready (rs := [7]) (by kernel_rfl) (by simp) ?_
    refine AllReadyH.cons (o := _) rfl (fun K hK => ?_) AllReadyH.nil
    go_simp
    go_at_call 9; (with_reducible refine (HI _ hC1).mono ?_); rintro ex wx ⟨rfl, hx⟩; have hC1 := hC1.trans (hx.mono hC1.size); clear hx
    dsimp only
    refine hK.out _ _ (o1.below hC1 hlt) (fun hHeld => ?_)
    clear hK K
    try simp only [List.getElem_toArray, List.getElem_cons_zero, List.getElem_cons_succ, Act.put, List.setIfInBounds_toArray, List.set_cons_zero, List.set_cons_succ]
    first
      | (refine wpAnyH_take (i := 13) rfl (by kernel_rfl) (by kernel_rfl) (by kernel_rfl) (fun _ _ _ h => h) (Or.inr ⟨by rfl, rfl⟩) (by assumption) ?_)
      | (refine wpAnyH_take (i := 13) (v := ?vb6) rfl (by kernel_rfl) (by kernel_rfl) (by kernel_rfl) (fun _ _ _ h => h) (Or.inl ⟨by rfl, ?hyb6⟩) (by assumption) ?rb6; case hyb6 => (rintro w' hS; go_simp; try with_reducible rfl))
    try simp only [List.getElem_toArray, List.getElem_cons_zero, List.getElem_cons_succ, Act.put, List.setIfInBounds_toArray, List.set_cons_zero, List.set_cons_succ]
    first
      | (refine wpAnyH_take (i := 14) rfl (by kernel_rfl) (by kernel_rfl) (by kernel_rfl) (fun _ _ _ h => h) (Or.inr ⟨by rfl, rfl⟩) (by assumption) ?_)
      | (refine wpAnyH_take (i := 14) (v := ?vb7) rfl (by kernel_rfl) (by kernel_rfl) (by kernel_rfl) (fun _ _ _ h => h) (Or.inl ⟨by rfl, ?hyb7⟩) (by assumption) ?rb7; case hyb7 => (rintro w' hS; go_simp; try with_reducible rfl))
    try simp only [List.getElem_toArray, List.getElem_cons_zero, List.getElem_cons_succ, Act.put, List.setIfInBounds_toArray, List.set_cons_zero, List.set_cons_succ]
    first
      | (refine wpAnyH_take (i := 15) rfl (by kernel_rfl) (by kernel_rfl) (by kernel_rfl) (fun _ _ _ h => h) (Or.inr ⟨by rfl, rfl⟩) (by assumption) ?_)
      | (refine wpAnyH_take (i := 15) (v := ?vb8) rfl (by kernel_rfl) (by kernel_rfl) (by kernel_rfl) (fun _ _ _ h => h) (Or.inl ⟨by rfl, ?hyb8⟩) (by assumption) ?rb8; case hyb8 => (rintro w' hS; go_simp; try with_reducible rfl))
    try simp only [List.getElem_toArray, List.getElem_cons_zero, List.getElem_cons_succ, Act.put, List.setIfInBounds_toArray, List.set_cons_zero, List.set_cons_succ]
    refine wpAnyH_ready (rs := [16]) (by kernel_rfl) (by simp) ?_
    refine AllReadyH.cons (o := _) rfl (fun K hK => ?_) AllReadyH.nil
    go_simp
    go_at_call 6; (with_reducible refine (HA _ hC1).mono ?_); rintro ex wx ⟨rfl, hx⟩; have hC1 := hC1.trans (hx.mono hC1.size); clear hx
    dsimp only
    refine hK.out _ _ (o1.below hC1 hlt) (fun hHeld => ?_)
    clear hK K
    try simp only [List.getElem_toArray, List.getElem_cons_zero, List.getElem_cons_succ, Act.put, List.setIfInBounds_toArray, List.set_cons_zero, List.set_cons_succ]
    first
      | (refine wpAnyH_take (i := 17) rfl (by kernel_rfl) (by kernel_rfl) (by kernel_rfl) (fun _ _ _ h => h) (Or.inr ⟨by rfl, rfl⟩) (by assumption) ?_)
      | (refine wpAnyH_take (i := 17) (v := ?vb9) rfl (by kernel_rfl) (by kernel_rfl) (by kernel_rfl) (fun _ _ _ h => h) (Or.inl ⟨by rfl, ?hyb9⟩) (by assumption) ?rb9; case hyb9 => (rintro w' hS; go_simp; try with_reducible rfl))
    try simp only [List.getElem_toArray, List.getElem_cons_zero, List.getElem_cons_succ, Act.put, List.setIfInBounds_toArray, List.set_cons_zero, List.set_cons_succ]
    first
      | (refine wpAnyH_take (i := 18) rfl (by kernel_rfl) (by kernel_rfl) (by kernel_rfl) (fun _ _ _ h => h) (Or.inr ⟨by rfl, rfl⟩) (by assumption) ?_)
      | (refine wpAnyH_take (i := 18) (v := ?vb10) rfl (by kernel_rfl) (by kernel_rfl) (by kernel_rfl) (fun _ _ _ h => h) (Or.inl ⟨by rfl, ?hyb10⟩) (by assumption) ?rb10; case hyb10 => (rintro w' hS; go_simp; try with_reducible rfl))
    try simp only [List.getElem_toArray, List.getElem_cons_zero, List.getElem_cons_succ, Act.put, List.setIfInBounds_toArray, List.set_cons_zero, List.set_cons_succ]
    refine wpAnyH_done (by kernel_rfl) ?_ _
    go_wp2
    go_ret
    exact ⟨rfl, hup _ hC1⟩
end Go.Proofs.YtkakcdojbgnocaaGreatDoor
