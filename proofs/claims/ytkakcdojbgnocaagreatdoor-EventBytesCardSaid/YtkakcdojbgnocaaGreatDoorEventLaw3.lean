/- Layer 20's laws, walked: an event's bytes, of which it is read again. -/
import Derived.Test.YtkakcdojbgnocaaGreatDoorLibAU
import Derived.Test.YtkakcdojbgnocaaGreatDoorLibAE
namespace Go.Proofs.YtkakcdojbgnocaaGreatDoor
open Go.RowKit
set_option linter.unusedVariables false

theorem itemB_len {x : ItemL} (h : rightX x = true) (hd : x.dom.length ≤ 2000) : (itemBytes x).length ≤ 4000 := by
  obtain ⟨a1, a2, a3, a4, a5, a6⟩ := right_item h
  obtain ⟨X, f1, f2⟩ := fold_nat x.exp (by omega) (by omega)
  unfold itemBytes
  simp only [List.length_append, strBytes_len, str_size]
  have t1 := short_ten x.name.length (by omega)
  have t2 := short_ten x.dom.length (by omega)
  have t3 := short_ten x.path.length (by omega)
  have t4 := short_ten x.val.length (by omega)
  have t5 := short_ten (foldI x.exp).toNat (by rw [f1]; omega)
  have t6 := short_ten x.made.toNat (by omega)
  have t7 := short_ten x.used.toNat (by omega)
  omega
theorem bytesE_len {e : EventN} (h : rightE e = true) (hd : e.item.dom.length ≤ 2000) : (bytesE e).length ≤ 10000 := by
  obtain ⟨r1, r2, r3, r4, r5⟩ := right_event h
  have t1 := bytesD_len r1
  have t2 := bytesT_len r2
  have t3 := short_ten e.over.length (by omega)
  have t4 := packs_len r4
  unfold bytesE
  simp only [List.length_append, List.length_singleton]
  by_cases k : e.kind = 1
  · rw [if_pos k]
    have := itemB_len (r5 k) hd
    omega
  · rw [if_neg k]
    simp only [List.length_nil]
    omega

theorem Wr.down {e : TypeId} {base base' p : Nat} {a : Option Addr} {l : List Int} {w : World} (h : Wr e base p a l w) (hb : base' ≤ base) : Wr e base' p a l w := by
  obtain ⟨n, c, h1, h2, h3, h4, h5, h6, h7⟩ := h
  exact ⟨n, c, Nat.le_trans hb h1, h2, h3, h4, h5, h6.base hb, h7⟩

/-- What lies where behind the bytes: the event's box, its bytes, a writer with the same. -/
structure StB (w : World) (A : Array Value) (p : Nat) (q r : Option Addr) (N d : Nat) (bs : List Int) (v : World) : Prop where
  o : ObjAt v w.heap.size A.toList
  b : Owned w.heap.size 5 q N d (bs.map (Value.int .u8)) v
  wr : Wr 5 w.heap.size p r bs v
  hb : Below w.heap.size w v
theorem StB.below {w v v' : World} {A : Array Value} {p : Nat} {q r : Option Addr} {N d : Nat} {bs : List Int} (h : StB w A p q r N d bs v) (hx : Below v.heap.size v v') : StB w A p q r N d bs v' :=
  ⟨h.o.below hx h.o.lt, h.b.below hx (Nat.le_refl _), h.wr.below hx, h.hb.trans (hx.mono h.hb.size)⟩

/-- And the event that was read, in a box of its own. -/
structure StX (w : World) (A : Array Value) (p : Nat) (q r : Option Addr) (N d : Nat) (bs : List Int) (xb : Nat) (A7 : Array Value) (a7 : Option Addr) (n7 c7 : Nat) (L : List DotN) (v : World) : Prop where
  s : StB w A p q r N d bs v
  x : ObjAt v xb A7.toList
  m : RowOf encD 3 v a7 n7 c7 L
theorem StX.below {w v v' : World} {A A7 : Array Value} {p xb n7 c7 : Nat} {q r a7 : Option Addr} {N d : Nat} {bs : List Int} {L : List DotN} (h : StX w A p q r N d bs xb A7 a7 n7 c7 L v) (hx : Below v.heap.size v v') : StX w A p q r N d bs xb A7 a7 n7 c7 L v' :=
  ⟨h.s.below hx, h.x.below hx h.x.lt, h.m.below hx⟩

set_option maxHeartbeats 1000000 in
set_option maxRecDepth 100000 in
theorem eventBytes_walk (e : EventN) (a : Option Addr) (n c : Nat) (w : World) (h : RowOf encD 3 w a n c e.over) (h1 : e.item.name.length ≤ maxLen) (h2 : e.item.dom.length ≤ maxLen) (h3 : e.item.path.length ≤ maxLen) (h4 : e.item.val.length ≤ maxLen) (hT : ETb w) :
    Calls Tryz.prog 4 #[.agg #[.int .i64 e.dot.dev, .int .i64 e.dot.inc, .int .i64 e.dot.seq, .int .i64 e.stamp.wall, .int .i64 e.stamp.count, .int .i64 e.stamp.dev, .int .i64 e.kind, .string (str e.item.name), .string (str e.item.dom), .string (str e.item.path), .string (str e.item.val), .bool e.item.host, .bool e.item.sec, .bool e.item.http, .bool e.item.pers, .int .i64 e.item.exp, .int .i64 e.item.made, .int .i64 e.item.used, .slice a n c]] w fun en w' => en = .returned (.bool true) ∧ Below w.heap.size w w' := by
  have HL := fun v => refELightC e a n c v h.leq h1 h2 h3 h4
  obtain ⟨A, hA⟩ : ∃ A, (#[.int .i64 e.dot.dev, .int .i64 e.dot.inc, .int .i64 e.dot.seq, .int .i64 e.stamp.wall, .int .i64 e.stamp.count, .int .i64 e.stamp.dev, .int .i64 e.kind, .string (str e.item.name), .string (str e.item.dom), .string (str e.item.path), .string (str e.item.val), .bool e.item.host, .bool e.item.sec, .bool e.item.http, .bool e.item.pers, .int .i64 e.item.exp, .int .i64 e.item.made, .int .i64 e.item.used, .slice a n c] : Array Value) = A := ⟨_, rfl⟩
  have hsz : A.size = 19 := by rw [← hA]; rfl
  have b1 := below_alloc w (.cells A 34)
  have o1 := ObjAt.new w A 34
  have hlt := o1.lt
  rw [hA]
  rw [hA] at HL
  generalize hw1 : w.alloc (.cells A 34) = w1 at *
  have HA := fun v hv => awake20C v (hT.below (w' := v) hv)
  cases hl : lightE e with
  | false =>
    rw [hl] at HL
    clear hl
    go_enter Tryz.func4, Tryz.ntmps4
    go_wp2_with (first
      | (refine wpList_loadAll rfl 34 _ rfl w.heap.size 19 A rfl o1 Tryz.isAgg34 Tryz.sizeOf34 hsz ?_)
      | (go_at_call 5; (with_reducible refine (HL _).mono ?_); rintro ex w2 ⟨rfl, hx⟩; have hb2 := b1.trans (hx.mono b1.size); clear hx)
      | (go_at_call 6; (with_reducible refine (HA _ hb2).mono ?_); rintro ex w3 ⟨rfl, hx⟩; have hb3 := hb2.trans (hx.mono hb2.size)))
    go_ret
    exact ⟨rfl, hb3⟩
  | true =>
    rw [hl] at HL
    obtain ⟨g0, g1, g2, g3, g4⟩ := light_len hl
    have HBt := fun v hv => eventBytesC e a n c v (h.below hv) hl (hT.below hv)
    have HPt := fun base p q l v hw hlen hbase hr hv => eventPutC base p q l e a n c v hw hlen hbase hr hl (hT.below hv)
    have HR := fun v hv => refERightL e a n c v (h.below hv) hl
    rw [hA] at HBt HPt HR
    cases hr : rightE e with
    | false =>
      have ep : putE e = [] := by unfold putE; rw [hr]; rfl
      have HBY := fun base p a v hw => wBytesC base p a [] 0 v hw rfl (by decide)
      rw [ep] at HBt HPt
      simp only [hr] at HBt HR
      unfold GivesOwned at HBY
      unfold PutGives at HPt
      clear hl hr ep g0 g1 g2 g3 g4 h1 h2 h3 h4
      go_enter Tryz.func4, Tryz.ntmps4
      go_wp2_with (first
        | (refine wpList_loadAll rfl 34 _ rfl w.heap.size 19 A rfl o6 Tryz.isAgg34 Tryz.sizeOf34 hsz ?_)
        | (refine wpList_loadAll rfl 34 _ rfl w.heap.size 19 A rfl o4 Tryz.isAgg34 Tryz.sizeOf34 hsz ?_)
        | (refine wpList_loadAll rfl 34 _ rfl w.heap.size 19 A rfl o2 Tryz.isAgg34 Tryz.sizeOf34 hsz ?_)
        | (refine wpList_loadAll rfl 34 _ rfl w.heap.size 19 A rfl o1 Tryz.isAgg34 Tryz.sizeOf34 hsz ?_)
        | (go_at_call 5; (with_reducible refine (HL _).mono ?_); rintro ex w2 ⟨rfl, hx⟩; have hb2 := b1.trans (hx.mono b1.size); have o2 := o1.below hx hlt; clear hx)
        | (go_at_call 10; (with_reducible refine (HBt _ hb2).mono ?_); rintro ex w3 ⟨q3, d3, rfl, hq3, hx⟩; have hb3 := hb2.trans (hx.mono hb2.size); have o3 := o2.below hx o2.lt; have hw4 := wr_new w3 5 46; have bx := below_alloc w3 (.cells #[.slice none 0 0] 46); have o4 := o3.below bx o3.lt; have hb4 := hb3.trans (bx.mono hb3.size); have hl3 := o3.lt; clear hx)
        | (go_at_call 11; (with_reducible refine (HPt _ _ _ _ _ hw4 (by simp) bx.size (fun v hv => h.below (hb4.trans (hv.mono hb3.size))) hb4).mono ?_); rintro ex w6 ⟨rfl, a6, hw6, k6, n6⟩; have hk6 := Keeps.ofKept k6; have o6 := o4.keeps hk6 (fun h => h.elim (fun e => by omega) (fun h => at_none _ h)); have hb6 := hb4.trans ((hk6.below (B := w3.heap.size) bx.size (fun i _ h => h.elim (fun e => by omega) (fun h => absurd h (at_none _)))).mono hb3.size))
        | (go_at_call 8; (with_reducible refine (HR _ hb6).mono ?_); rintro ex w7 ⟨rfl, hx⟩; have hw7 := hw6.below hx; have hb7 := hb6.trans (hx.mono hb6.size); clear hx)
        | (go_at_call 12; (with_reducible refine (HBY _ _ _ _ hw7).mono ?_); rintro ex w8 ⟨a8, c8, rfl, ho8, hx⟩; have hb8 := hb7.trans (hx.mono hb7.size); clear hx)
        | (go_at_call 6; (with_reducible refine (HA _ hb8).mono ?_); rintro ex w9 ⟨rfl, hx⟩; have hb9 := hb8.trans (hx.mono hb8.size)))
      go_ret
      exact ⟨rfl, hb9⟩
    | true =>
      have ep : putE e = bytesE e := by unfold putE; rw [if_pos hr]
      have hN1 := bytesE_len hr g2
      have HRd := fun b m d v hm hb hd hdm hv => eventReadC e b m d v hr hl hm hb hd hdm (hT.below hv)
      have HRP := fun v hv => refEPutC e a n c v (h.below hv) hr g2
      have HSM := fun a7 c7 v (h7 : RowOf encD 3 v a7 e.over.length c7 e.over) hv => refESameC e e a7 a e.over.length c7 n c v h7 (h.below hv)
      have hss : sameE e e = true := sameE_iff.2 rfl
      rw [hss] at HSM
      rw [ep] at HBt HPt
      rw [hA] at HRP HSM
      simp only [hr] at HBt HR
      obtain ⟨bs, hbs⟩ : ∃ bs, bytesE e = bs := ⟨_, rfl⟩
      obtain ⟨N, hN⟩ : ∃ N, bs.length = N := ⟨_, rfl⟩
      rw [hbs] at HBt HPt HRd HRP hN1
      rw [hN] at HBt HRP hN1
      have HBY := fun base p a v hw => wBytesC base p a bs N v hw hN (by omega)
      have HSAME := fun a b c d v ha hb => sameO bs N hN a b c d v ha hb (by unfold maxLen; omega)
      have HRd := fun b d v hb hd hdm hv => HRd b N d v hN hb hd hdm hv
      unfold GivesOwned at HBY HRP
      unfold PutGives at HPt
      clear hl hr ep hbs hss h1 h2 h3 h4 g0 g1 g2 g3 g4 hN1 hN
      go_enter Tryz.func4, Tryz.ntmps4
      go_wp2_with (first
        | (refine wpList_loadAll rfl 34 _ rfl w.heap.size 19 A rfl hS.o Tryz.isAgg34 Tryz.sizeOf34 hsz ?_)
        | (refine wpList_loadAll rfl 34 _ rfl w.heap.size 19 A rfl o4 Tryz.isAgg34 Tryz.sizeOf34 hsz ?_)
        | (refine wpList_loadAll rfl 34 _ rfl w.heap.size 19 A rfl o2 Tryz.isAgg34 Tryz.sizeOf34 hsz ?_)
        | (refine wpList_loadAll rfl 34 _ rfl w.heap.size 19 A rfl o1 Tryz.isAgg34 Tryz.sizeOf34 hsz ?_)
        | (refine wpList_storeAll rfl 34 _ _ rfl #[.int .i64 0, .int .i64 0, .int .i64 0, .int .i64 0, .int .i64 0, .int .i64 0, .int .i64 0, .string ⟨#[]⟩, .string ⟨#[]⟩, .string ⟨#[]⟩, .string ⟨#[]⟩, .bool false, .bool false, .bool false, .bool false, .int .i64 0, .int .i64 0, .int .i64 0, .slice none 0 0] A7 19 rfl rfl (by kernel_rfl) rfl hsz7 hone7 ?_; rw [hw9])
        | (go_at_call 5; (with_reducible refine (HL _).mono ?_); rintro ex w2 ⟨rfl, hx⟩; have hb2 := b1.trans (hx.mono b1.size); have o2 := o1.below hx hlt; clear hx)
        | (go_at_call 10; (with_reducible refine (HBt _ hb2).mono ?_); rintro ex w3 ⟨q3, d3, rfl, hq3, hx⟩; have hb3 := hb2.trans (hx.mono hb2.size); have o3 := o2.below hx o2.lt; have hw4 := wr_new w3 5 46; have bx := below_alloc w3 (.cells #[.slice none 0 0] 46); have o4 := o3.below bx o3.lt; have hb4 := hb3.trans (bx.mono hb3.size); have hl3 := o3.lt; have hq4 := (hq3.base hb2.size).below bx (Nat.le_refl _); have hql := fun x hx => (hq3.lt' x hx).2; clear hx)
        | (go_at_call 11; (with_reducible refine (HPt _ _ _ _ _ hw4 (by simp) bx.size (fun v hv => h.below (hb4.trans (hv.mono hb3.size))) hb4).mono ?_); rintro ex w6 ⟨rfl, a6, hw6, k6, n6⟩; have hk6 := Keeps.ofKept k6; have hS : StB w A w3.heap.size q3 a6 N d3 bs w6 := ⟨o4.keeps hk6 (fun h => h.elim (fun e => by omega) (fun h => at_none _ h)), hq4.keeps hk6 (fun k hk h => h.elim (fun e => by obtain ⟨x, hx, rfl⟩ := hk; have := hql x hx; omega) (fun h => at_none _ h)), by simpa using hw6.down hb3.size, hb4.trans ((hk6.below (B := w3.heap.size) bx.size (fun i _ h => h.elim (fun e => by omega) (fun h => absurd h (at_none _)))).mono hb3.size)⟩; clear hw4 bx o3 o4 hq3 hq4 hql hb3 hb4 hk6 k6 n6 hw6 o1 o2 hb2)
        | (go_at_call 8; (with_reducible refine (HR _ hS.hb).mono ?_); rintro ex w7 ⟨rfl, hx⟩; have hS := hS.below hx; clear hx)
        | (go_at_call 13; (with_reducible refine (HRd _ _ _ hS.b.reads hS.b.le hS.b.capm hS.hb).mono ?_); rintro ex w8 ⟨a7, c7, rfl, hr7, hx⟩; have hS := hS.below hx; obtain ⟨A7, hA7⟩ : ∃ A7, (#[.int .i64 e.dot.dev, .int .i64 e.dot.inc, .int .i64 e.dot.seq, .int .i64 e.stamp.wall, .int .i64 e.stamp.count, .int .i64 e.stamp.dev, .int .i64 e.kind, .string (str e.item.name), .string (str e.item.dom), .string (str e.item.path), .string (str e.item.val), .bool e.item.host, .bool e.item.sec, .bool e.item.http, .bool e.item.pers, .int .i64 e.item.exp, .int .i64 e.item.made, .int .i64 e.item.used, .slice a7 e.over.length c7] : Array Value) = A7 := ⟨_, rfl⟩; have hsz7 : A7.size = 19 := (by rw [← hA7]; rfl); have hone7 : A7.all (·.oneCell') = true := (by rw [← hA7, ← Array.all_toList]; rfl); have HSM := HSM a7 c7; rw [hA7] at HSM; rw [hA7]; have o9 := ObjAt.new w8 A7 34; have b9 := below_alloc w8 (.cells A7 34); obtain ⟨w9, hw9⟩ : ∃ w9, w8.alloc (.cells A7 34) = w9 := ⟨_, rfl⟩; rw [hw9] at o9 b9; have hX : StX w A w3.heap.size q3 a6 N d3 bs w8.heap.size A7 a7 e.over.length c7 e.over w9 := ⟨hS.below b9, o9, hr7.below b9⟩; clear hS hr7 hx o9 b9 HRd HPt HBt)
        | (refine wpList_loadAll rfl 34 _ rfl w.heap.size 19 A rfl hX.s.o Tryz.isAgg34 Tryz.sizeOf34 hsz ?_)
        | (refine wpList_guard (by rfl) ?_; refine wpList_loadAll rfl 34 _ rfl w.heap.size 19 A rfl hX.s.o Tryz.isAgg34 Tryz.sizeOf34 hsz ?_)
        | (refine wpList_guard (by rfl) ?_; refine wpList_loadAll rfl 34 _ rfl w8.heap.size 19 A7 rfl hX.x Tryz.isAgg34 Tryz.sizeOf34 hsz7 ?_)
        | (go_at_call 15; (with_reducible refine (HRP _ hX.s.hb).mono ?_); rintro ex w10 ⟨a10, c10, rfl, ho10, hx⟩; have hX := hX.below hx; have hrb := ho10.reads; clear hx)
        | (go_at_call 14; (with_reducible refine (HSAME _ _ _ _ _ hX.s.b.reads hrb).mono ?_); rintro ex w11 ⟨rfl, q11, rfl⟩; have hX := hX.below (drawn_below (Below.refl _ _) q11))
        | (go_at_call 12; (with_reducible refine (HBY _ _ _ _ hX.s.wr).mono ?_); rintro ex w12 ⟨a12, c12, rfl, ho12, hx⟩; have hX := hX.below hx; have hrc := ho12.reads; clear hx)
        | (go_at_call 14; (with_reducible refine (HSAME _ _ _ _ _ hrc hX.s.b.reads).mono ?_); rintro ex w13 ⟨rfl, q13, rfl⟩; have hX := hX.below (drawn_below (Below.refl _ _) q13))
        | (go_at_call 16; (with_reducible refine (HSM _ hX.m hX.s.hb).mono ?_); rintro ex w14 ⟨rfl, hx⟩; have hX := hX.below hx; clear hx)
        | (go_at_call 6; (with_reducible refine (HA _ hX.s.hb).mono ?_); rintro ex w15 ⟨rfl, hx⟩; have hb15 := hX.s.hb.trans (hx.mono hX.s.hb.size)))
      go_ret
      exact ⟨rfl, hb15⟩
end Go.Proofs.YtkakcdojbgnocaaGreatDoor
