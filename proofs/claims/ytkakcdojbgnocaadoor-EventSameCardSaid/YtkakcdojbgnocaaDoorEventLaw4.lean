/- Layer 20's laws, walked: the same events; their bytes; a clone goes its own way. -/
import Derived.Test.YtkakcdojbgnocaaDoorEventLaw3
import Derived.Test.YtkakcdojbgnocaaDoorLibAS
import Derived.Test.YtkakcdojbgnocaaDoorLibAF
import Derived.Deep.DeepCutAuto
namespace Go.Proofs.YtkakcdojbgnocaaDoor
open Go.RowKit
set_option linter.unusedVariables false

/-- The boxes of both events. -/
structure StS (w : World) (A B : Array Value) (v : World) : Prop where
  o1 : ObjAt v w.heap.size A.toList
  o2 : ObjAt v (w.heap.size + 1) B.toList
  hb : Below w.heap.size w v
theorem StS.below {w v v' : World} {A B : Array Value} (h : StS w A B v) (hx : Below v.heap.size v v') : StS w A B v' :=
  ⟨h.o1.below hx h.o1.lt, h.o2.below hx h.o2.lt, h.hb.trans (hx.mono h.hb.size)⟩
theorem StS.keeps {w v v' : World} {A B : Array Value} {F : Nat → Prop} (h : StS w A B v) (hk : Keeps F v v') (hF : ∀ k, F k → w.heap.size + 2 ≤ k) : StS w A B v' :=
  ⟨h.o1.keeps hk (fun c => by have := hF _ c; omega), h.o2.keeps hk (fun c => by have := hF _ c; omega), h.hb.trans (hk.below h.hb.size fun k _ c => by have := hF _ c; omega)⟩
/-- And the clone, in a box of its own, with a row of its own. -/
structure StT (w : World) (A B : Array Value) (xb : Nat) (C : Array Value) (bq : Option Addr) (dq n : Nat) (xs : List Value) (v : World) : Prop where
  s : StS w A B v
  x : ObjAt v xb C.toList
  z : v.ownsRow (w.heap.size + 2) 25 3 (.slice bq n dq) n xs
  xl : w.heap.size + 2 ≤ xb
  ap : ¬ At bq xb
theorem StT.below {w v v' : World} {A B C : Array Value} {xb dq n : Nat} {bq : Option Addr} {xs : List Value} (h : StT w A B xb C bq dq n xs v) (hx : Below v.heap.size v v') : StT w A B xb C bq dq n xs v' :=
  ⟨h.s.below hx, h.x.below hx h.x.lt, owns_below h.z hx (Nat.le_refl _), h.xl, h.ap⟩

theorem owns_at3 {v : World} {base dq n : Nat} {t : TypeId} {bq : Option Addr} {xs : List Value} (h : v.ownsRow base t 3 (.slice bq n dq) n xs) : xs.length = n * 3 ∧ (0 < n → ∃ g, bq = some ⟨g, 0, none⟩) ∧ ∀ j, At bq j → base ≤ j ∧ j < v.heap.size := by
  refine ⟨h.1, ?_, ?_⟩
  · intro hn
    rcases h.2 with ⟨h', h2⟩ | ⟨g', cap, cur, hv, _⟩
    · cases h'
      omega
    · cases hv
      exact ⟨g', rfl⟩
  · intro j hj
    rcases h.2 with ⟨h', _⟩ | ⟨g', cap, cur, hv, hb, hg, _⟩
    · cases h'
      exact absurd hj (at_none _)
    · cases hv
      obtain rfl := at_some.1 hj
      exact ⟨hb, (Array.getElem?_eq_some_iff.1 hg).1⟩

set_option maxHeartbeats 2000000 in
set_option maxRecDepth 100000 in
theorem eventSame_walk0 (e f : EventN) (a b : Option Addr) (n c m d : Nat) (w : World) (h : RowOf encD 3 w a n c e.over) (k : RowOf encD 3 w b m d f.over) (h1 : e.item.name.length ≤ maxLen) (h2 : e.item.dom.length ≤ maxLen) (h3 : e.item.path.length ≤ maxLen) (h4 : e.item.val.length ≤ maxLen)
    (k1 : f.item.name.length ≤ maxLen) (k2 : f.item.dom.length ≤ maxLen) (k3 : f.item.path.length ≤ maxLen) (k4 : f.item.val.length ≤ maxLen) (hT : ETb w) :
    Calls Tryd.prog 3 #[.agg #[.int .i64 e.dot.dev, .int .i64 e.dot.inc, .int .i64 e.dot.seq, .int .i64 e.stamp.wall, .int .i64 e.stamp.count, .int .i64 e.stamp.dev, .int .i64 e.kind, .string (str e.item.name), .string (str e.item.dom), .string (str e.item.path), .string (str e.item.val), .bool e.item.host, .bool e.item.sec, .bool e.item.http, .bool e.item.pers, .int .i64 e.item.exp, .int .i64 e.item.made, .int .i64 e.item.used, .slice a n c], .agg #[.int .i64 f.dot.dev, .int .i64 f.dot.inc, .int .i64 f.dot.seq, .int .i64 f.stamp.wall, .int .i64 f.stamp.count, .int .i64 f.stamp.dev, .int .i64 f.kind, .string (str f.item.name), .string (str f.item.dom), .string (str f.item.path), .string (str f.item.val), .bool f.item.host, .bool f.item.sec, .bool f.item.http, .bool f.item.pers, .int .i64 f.item.exp, .int .i64 f.item.made, .int .i64 f.item.used, .slice b m d]] w fun en w' => en = .returned (.bool true) ∧ Below w.heap.size w w' := by
  have HL1 := fun v => refELightC e a n c v h.leq h1 h2 h3 h4
  have HL2 := fun v => refELightC f b m d v k.leq k1 k2 k3 k4
  obtain ⟨A, hA⟩ : ∃ A, (#[.int .i64 e.dot.dev, .int .i64 e.dot.inc, .int .i64 e.dot.seq, .int .i64 e.stamp.wall, .int .i64 e.stamp.count, .int .i64 e.stamp.dev, .int .i64 e.kind, .string (str e.item.name), .string (str e.item.dom), .string (str e.item.path), .string (str e.item.val), .bool e.item.host, .bool e.item.sec, .bool e.item.http, .bool e.item.pers, .int .i64 e.item.exp, .int .i64 e.item.made, .int .i64 e.item.used, .slice a n c] : Array Value) = A := ⟨_, rfl⟩
  obtain ⟨B, hB⟩ : ∃ B, (#[.int .i64 f.dot.dev, .int .i64 f.dot.inc, .int .i64 f.dot.seq, .int .i64 f.stamp.wall, .int .i64 f.stamp.count, .int .i64 f.stamp.dev, .int .i64 f.kind, .string (str f.item.name), .string (str f.item.dom), .string (str f.item.path), .string (str f.item.val), .bool f.item.host, .bool f.item.sec, .bool f.item.http, .bool f.item.pers, .int .i64 f.item.exp, .int .i64 f.item.made, .int .i64 f.item.used, .slice b m d] : Array Value) = B := ⟨_, rfl⟩
  have hzA : A.size = 19 := by rw [← hA]; rfl
  have hzB : B.size = 19 := by rw [← hB]; rfl
  have hcA : A.toList[18]? = some (.slice a n c) := by rw [← hA]; rfl
  obtain ⟨p1, p2, p3⟩ := objsE2 w A B 34 34
  have hS : StS w A B ((w.alloc (.cells A 34)).alloc (.cells B 34)) := ⟨p1, p2, p3⟩
  clear p1 p2 p3
  rw [hA, hB]
  rw [hA] at HL1
  rw [hB] at HL2
  generalize hw1 : (w.alloc (.cells A 34)).alloc (.cells B 34) = w1 at *
  have HA := fun v hv => awake20C v (hT.below (w' := v) hv)
  by_cases hl : lightE e = true ∧ lightE f = true
  · obtain ⟨hl, kl⟩ := hl
    rw [hl] at HL1
    rw [kl] at HL2
    have HSM := fun v hv => refESameC e f a b n c m d v (h.below hv) (k.below hv)
    have HES := fun v hv => eventSameC e f a b n c m d v (h.below hv) (k.below hv) hl kl (hT.below hv)
    have HCL := fun v hv => eventCloneC e a n c v (h.below hv) hl (hT.below hv)
    have HEC := fun bq dq v hr hv => eventSameC e e bq a n dq n c v hr (h.below hv) hl hl (hT.below hv)
    have hss : sameE e e = true := sameE_iff.2 rfl
    rw [hss] at HEC
    have HB1 := fun v hv => eventBytesC e a n c v (h.below hv) hl (hT.below hv)
    have HB2 := fun v hv => eventBytesC f b m d v (k.below hv) kl (hT.below hv)
    rw [hA, hB] at HSM HES
    rw [hA] at HCL HEC HB1
    rw [hB] at HB2
    have hg1 := light_len hl
    have hn100 : n ≤ 100 := by have := hg1.1; have := h.leq; omega
    have hg2 := light_len kl
    have hinj := fun h1 h2 => bytesE_inj (a := e) (b := f) h1 h2 hg1.2.2.1 hg2.2.2.1
    have hiff := sameE_iff (a := e) (b := f)
    generalize hSv : sameE e f = SV at *
    obtain ⟨y1, hy1⟩ : ∃ y, putE e = y := ⟨_, rfl⟩
    obtain ⟨y2, hy2⟩ : ∃ y, putE f = y := ⟨_, rfl⟩
    obtain ⟨n1, hn1⟩ : ∃ z, y1.length = z := ⟨_, rfl⟩
    obtain ⟨n2, hn2⟩ : ∃ z, y2.length = z := ⟨_, rfl⟩
    obtain ⟨z1, hz1⟩ : ∃ z : Int, (if rightE e = true then 0 else 1) = z := ⟨_, rfl⟩
    obtain ⟨z2, hz2⟩ : ∃ z : Int, (if rightE f = true then 0 else 1) = z := ⟨_, rfl⟩
    rw [hy1, hn1, hz1] at HB1
    rw [hy2, hn2, hz2] at HB2
    have hm1 : n1 ≤ maxLen := by
      rw [← hn1, ← hy1]
      unfold putE maxLen
      split
      · rename_i hr
        have := bytesE_len hr hg1.2.2.1
        omega
      · simp
    have YY := Lib.hid (And.intro (And.intro hy1 hy2) (And.intro hz1 hz2))
    have NN := Lib.hid (And.intro hn1 hn2)
    have JJ := Lib.hid (And.intro hinj hiff)
    have HSB := fun (a b : Option Addr) (c d : Nat) (v : World) ha hb => sameBC y1 y2 n1 n2 hn1 hn2 a b c d v ha hb hm1
    clear hy1 hy2 hn1 hn2 hz1 hz2 hinj hiff hg1 hg2 hSv hss hl kl h1 h2 h3 h4 k1 k2 k3 k4 hA hB hm1
    go_enter Tryd.func3, Tryd.ntmps3
    go_upto_region 9 with (first
      | (refine wpList_loadAll rfl 34 _ rfl w.heap.size 19 A rfl hX.s.o1 Tryd.isAgg34 Tryd.sizeOf34 hzA ?_)
      | (refine wpList_guard (by rfl) ?_; refine wpList_loadAll rfl 34 _ rfl w.heap.size 19 A rfl hX.s.o1 Tryd.isAgg34 Tryd.sizeOf34 hzA ?_)
      | (refine wpList_loadAll rfl 34 _ rfl (w.heap.size + 1) 19 B rfl hX.s.o2 Tryd.isAgg34 Tryd.sizeOf34 hzB ?_)
      | (refine wpList_guard (by rfl) ?_; refine wpList_loadAll rfl 34 _ rfl (w.heap.size + 1) 19 B rfl hX.s.o2 Tryd.isAgg34 Tryd.sizeOf34 hzB ?_)
      | (refine wpList_guard (by rfl) ?_; refine wpList_loadAll rfl 34 _ rfl wq.heap.size 19 C rfl hX.x Tryd.isAgg34 Tryd.sizeOf34 hzC ?_)
      | (refine wpList_loadAll rfl 34 _ rfl w.heap.size 19 A rfl hS.o1 Tryd.isAgg34 Tryd.sizeOf34 hzA ?_)
      | (refine wpList_guard (by rfl) ?_; refine wpList_loadAll rfl 34 _ rfl w.heap.size 19 A rfl hS.o1 Tryd.isAgg34 Tryd.sizeOf34 hzA ?_)
      | (refine wpList_loadAll rfl 34 _ rfl (w.heap.size + 1) 19 B rfl hS.o2 Tryd.isAgg34 Tryd.sizeOf34 hzB ?_)
      | (refine wpList_guard (by rfl) ?_; refine wpList_loadAll rfl 34 _ rfl (w.heap.size + 1) 19 B rfl hS.o2 Tryd.isAgg34 Tryd.sizeOf34 hzB ?_)
      | (refine wpList_storeAll rfl 34 _ _ rfl #[.int .i64 0, .int .i64 0, .int .i64 0, .int .i64 0, .int .i64 0, .int .i64 0, .int .i64 0, .string ⟨#[]⟩, .string ⟨#[]⟩, .string ⟨#[]⟩, .string ⟨#[]⟩, .bool false, .bool false, .bool false, .bool false, .int .i64 0, .int .i64 0, .int .i64 0, .slice none 0 0] C 19 rfl rfl (by kernel_rfl) rfl hzC hoC ?_; rw [hw4])
      | (go_at_call 4; (with_reducible refine (HL1 _).mono ?_); rintro ex wx ⟨rfl, hx⟩; have hS := hS.below hx; clear hx)
      | (go_at_call 4; (with_reducible refine (HL2 _).mono ?_); rintro ex wx ⟨rfl, hx⟩; have hS := hS.below hx; clear hx)
      | (go_at_call 6; (with_reducible refine (HSM _ hS.hb).mono ?_); rintro ex wx ⟨rfl, hx⟩; have hS := hS.below hx; clear hx)
      | (go_at_call 7; (with_reducible refine (HCL _ hS.hb).mono ?_); rintro ex wq ⟨bq, dq, rfl, hz, hx⟩; have hbs := hS.o2.lt; have hS := hS.below hx; have hz := hz.base hbs; obtain ⟨C, hC⟩ : ∃ C, (#[.int .i64 e.dot.dev, .int .i64 e.dot.inc, .int .i64 e.dot.seq, .int .i64 e.stamp.wall, .int .i64 e.stamp.count, .int .i64 e.stamp.dev, .int .i64 e.kind, .string (str e.item.name), .string (str e.item.dom), .string (str e.item.path), .string (str e.item.val), .bool e.item.host, .bool e.item.sec, .bool e.item.http, .bool e.item.pers, .int .i64 e.item.exp, .int .i64 e.item.made, .int .i64 e.item.used, .slice bq n dq] : Array Value) = C := ⟨_, rfl⟩; have hzC : C.size = 19 := (by rw [← hC]; rfl); have hoC : C.all (·.oneCell') = true := (by rw [← hC, ← Array.all_toList]; rfl); have hcC : C.toList[18]? = some (.slice bq n dq) := (by rw [← hC]; rfl); have HEC := HEC bq dq; rw [hC] at HEC; rw [hC]; have o4 := ObjAt.new wq C 34; have b4 := below_alloc wq (.cells C 34); obtain ⟨w4, hw4⟩ : ∃ w4, wq.alloc (.cells C 34) = w4 := ⟨_, rfl⟩; have hX : StT w A B wq.heap.size C bq dq n (flatC encD e.over) (wq.alloc (.cells C 34)) := ⟨hS.below b4, o4, owns_below hz.1 b4 (Nat.le_refl _), Nat.le_trans hbs hx.size, fun hk => Nat.lt_irrefl _ (hz.lt' _ hk).2⟩; have hrC := (hz.row encD_len).below b4; rw [hw4] at hX hrC; clear hS hz hx o4 b4 hC HCL hbs)
      | (go_at_call 8; (with_reducible refine (HES _ hX.s.hb).mono ?_); rintro ex wx ⟨rfl, hx⟩; have hrC := hrC.below hx; have hX := hX.below hx; clear hx)
      | (go_at_call 8; (with_reducible refine (HEC _ hrC hX.s.hb).mono ?_); rintro ex wx ⟨rfl, hx⟩; have hX := hX.below hx; clear hx hrC)
      | (go_at_call 9; (with_reducible refine (HB1 _ hX.s.hb).mono ?_); rintro ex wx ⟨q1, d1, rfl, hq1, hx⟩; have hX := hX.below hx; have hr1 := hq1.reads; clear hx hq1)
      | (go_at_call 9; (with_reducible refine (HB2 _ hX.s.hb).mono ?_); rintro ex wx ⟨q2, d2, rfl, hq2, hx⟩; have hX := hX.below hx; have hr1 := hr1.below' hx; have hr2 := hq2.reads; clear hx hq2)
)
    go_cut [61] (fun s61 v => s61 = .bool false ∧ StT w A B wq.heap.size C bq dq n (flatC encD e.over) v)
    case first =>
      clear HL1 HL2 HSM HES HB1 HB2 HA HEC
      have hfin : ∀ r1 : rightE e = true, ∀ r2 : rightE f = true, decide (y1 = y2) = SV := fun r1 r2 => by
        obtain ⟨⟨hy1, hy2⟩, -⟩ := YY.out
        unfold putE at hy1 hy2
        rw [if_pos r1] at hy1
        rw [if_pos r2] at hy2
        obtain ⟨j1, j2⟩ := JJ.out
        rw [Bool.eq_iff_iff, decide_eq_true_iff, j2, ← hy1, ← hy2]
        exact ⟨j1 r1 r2, fun c => by rw [c]⟩
      by_cases r1 : rightE e = true
      · by_cases r2 : rightE f = true
        · obtain ⟨-, hz1, hz2⟩ := YY.out
          rw [if_pos r1] at hz1
          rw [if_pos r2] at hz2
          subst hz1 hz2
          have HS1 := HSB _ _ d1 d2 _ hr1 hr2
          rw [hfin r1 r2] at HS1
          clear hfin r1 r2 YY NN JJ HSB hr1 hr2
          go_wp2_with (go_at_call 10; (with_reducible refine HS1.mono ?_); rintro ex wx ⟨rfl, qq, rfl⟩; have hX := hX.below (drawn_below (Below.refl _ _) qq))
          go_meet
          exact ⟨by simp, hX⟩
        · obtain ⟨-, hz1, hz2⟩ := YY.out
          rw [if_pos r1] at hz1
          rw [if_neg r2] at hz2
          subst hz1 hz2
          clear hfin r1 r2 YY NN JJ HSB hr1 hr2
          go_wp2_with fail
          go_meet
          exact ⟨rfl, hX⟩
      · obtain ⟨-, hz1, -⟩ := YY.out
        rw [if_neg r1] at hz1
        subst hz1
        clear hfin r1 YY NN JJ HSB hr1 hr2
        go_wp2_with fail
        go_meet
        exact ⟨rfl, hX⟩
    case rest =>
    clear hX hr1 hr2 HL1 HL2 HSM HES HB1 HB2 HEC HSB YY NN JJ
    obtain ⟨rfl, hX⟩ := hcut
    obtain ⟨i0, hi, hz0, hz1, hz2⟩ := info_parts infoDot
    have O5 := OwnZ.lit encD 3 25 wc
    have b5 := below_alloc wc (.cells #[] 25)
    obtain ⟨w5, hw5⟩ : ∃ w5, wc.alloc (.cells #[] 25) = w5 := ⟨_, rfl⟩
    rw [hw5] at O5 b5
    have hX5 := hX.below b5
    have hL5 := h.below hX5.s.hb
    have c18 := hX5.s.o1.cell 18 hcA
    go_wp2_with (at_builtin; refine wpList_append_rows encD_len (by decide) encD_one rfl (.tmp 62) (.tmp 64) 32 rfl 25 i0 (.agg #[.int .i64 0, .int .i64 0, .int .i64 0]) 24 Tryd.underlying32 hi hz0 hz1 hz2 rfl O5 rfl hL5 rfl n (Nat.zero_add n) (by unfold maxLen; omega) (by omega) b5.size ?_; intro a6 c6 w6 O6 hb6 hg6 ha6)
    rw [List.nil_append] at O6
    have hX6 := hX.below (b5.trans hb6)
    have hq9 := (owns_at3 hX.z).2.2
    have hx9 := hX.x.lt
    have hrow0 := h
    clear hX5 hL5 c18 O5 hb6 hg6 ha6 b5
    go_loopw [12] (fun i wr => ∃ (j : Nat) (xs : List Value), j ≤ n ∧ i = .int .i64 (j : Int) ∧ StT w A B wq.heap.size C bq dq n xs wr ∧ OwnZ encD 3 wc.heap.size 25 a6 n c6 e.over wr) (fun i _ => n - (intOf i).toNat)
    case atStart => exact ⟨0, _, Nat.zero_le _, rfl, hX6, O6⟩
    case round =>
      clear hX hX6 O6
      obtain ⟨j, xs, hj, rfl, hX, hO⟩ := hrel
      have x18 := hX.x.cell 18 hcC
      by_cases hlt : j < n
      · have hlt' : (j : Int) < (n : Int) := by omega
        obtain ⟨hlen, hhd, hat⟩ := owns_at3 hX.z
        obtain ⟨g, rfl⟩ := hhd (by omega)
        have hgb := hat g (at_some.2 rfl)
        have hgc := hq9 g (at_some.2 rfl)
        have y0 := hX.z.cellAt (j * 3 + 2) (by omega)
        rw [List.getElem?_eq_getElem (by omega)] at y0
        have y1 := hX.z.frozenAt (j * 3 + 2)
        have st := hX.z.stored (j * 3 + 2) (.int .i64 0)
        generalize xs[j * 3 + 2]'(by omega) = v0 at y0
        go_wp2
        go_roundw
        case rel =>
          have hk : Keeps (fun k => k = g) wr (wr.setCell ⟨g, j * 3 + 2, none⟩ (.int .i64 0)) := Keeps.setCell (F := fun k => k = g) (Keeps.refl _ wr) (x := ⟨g, j * 3 + 2, none⟩) rfl (.int .i64 0)
          refine ⟨j + 1, _, by omega, by go_num, ⟨hX.s.keeps hk (fun k e => by subst e; exact hgb.1), hX.x.keeps hk (fun e => hX.ap (at_some.2 e.symm)), st.1, hX.xl, hX.ap⟩, hO.keeps hk (fun k h1 e => by have := (hO.lt' k h1).1; omega)⟩
        case measure => simp [intOf]; omega
      · obtain rfl : j = n := by omega
        have hlE := hrow0.leq
        have rowA := hrow0.below hX.s.hb
        have rowW := hO.row encD_len
        have c18 := hX.s.o1.cell 18 hcA
        go_wp2
        go_loopw [13] (fun i v => ∃ (t q : Nat), t ≤ j ∧ i = .int .i64 (t : Int) ∧ v = wr.drewN q) (fun i _ => j - (intOf i).toNat)
        case atStart => exact ⟨0, 0, Nat.zero_le _, rfl, rfl⟩
        case round =>
          obtain ⟨t, qd, ht, rfl, rfl⟩ := hrel
          by_cases hlt2 : t < j
          · have hlt' : (t : Int) < (j : Int) := by omega
            obtain ⟨x1, g1, f1, e1, r1, d0, d1, d2⟩ := dot_at rowA t hlt2
            obtain ⟨x2, g2, f2, e2, r2, d3, d4, d5⟩ := dot_at rowW t hlt2
            rw [e1] at e2
            cases e2
            subst r1 r2
            have hE := fun v => eqDot x1 x1 v
            have hEE : sameD x1 x1 = true := sameD_iff.2 rfl
            rw [hEE] at hE
            clear e1 hEE rowA rowW
            go_wp2_with fail
            go_quiet (fail)
            go_wp2
            go_roundw
            case rel => exact ⟨t + 1, _, by omega, by go_num, rfl⟩
            case measure => simp [intOf]; omega
          · go_wp2_with (go_at_call 5; (with_reducible refine (HA _ (drawn_below hX.s.hb _)).mono ?_); rintro ex w9 ⟨rfl, hx⟩; have hb9 := (drawn_below hX.s.hb qd).trans (hx.mono (drawn_below hX.s.hb qd).size))
            go_ret
            exact ⟨rfl, hb9⟩
  · have HAw := fun v (hv : StS w A B v) => HA v hv.hb
    clear hT hcA
    cases l1 : lightE e with
    | false =>
      rw [l1] at HL1
      clear hl l1 HL2
      go_enter Tryd.func3, Tryd.ntmps3
      go_wp2_with (first
      | (refine wpList_loadAll rfl 34 _ rfl w.heap.size 19 A rfl hS.o1 Tryd.isAgg34 Tryd.sizeOf34 hzA ?_)
      | (refine wpList_guard (by rfl) ?_; refine wpList_loadAll rfl 34 _ rfl w.heap.size 19 A rfl hS.o1 Tryd.isAgg34 Tryd.sizeOf34 hzA ?_)
      | (refine wpList_loadAll rfl 34 _ rfl (w.heap.size + 1) 19 B rfl hS.o2 Tryd.isAgg34 Tryd.sizeOf34 hzB ?_)
      | (refine wpList_guard (by rfl) ?_; refine wpList_loadAll rfl 34 _ rfl (w.heap.size + 1) 19 B rfl hS.o2 Tryd.isAgg34 Tryd.sizeOf34 hzB ?_)
      | (go_at_call 4; (with_reducible refine (HL1 _).mono ?_); rintro ex wx ⟨rfl, hx⟩; have hS := hS.below hx; clear hx)
      | (go_at_call 5; (with_reducible refine (HAw _ hS).mono ?_); rintro ex wx ⟨rfl, hx⟩; have hb9 := hS.hb.trans (hx.mono hS.hb.size))
)
      go_ret
      exact ⟨rfl, hb9⟩
    | true =>
      have l2 : lightE f = false := by
        cases l2 : lightE f with
        | false => rfl
        | true => exact absurd ⟨l1, l2⟩ hl
      rw [l1] at HL1
      rw [l2] at HL2
      clear hl l1 l2
      go_enter Tryd.func3, Tryd.ntmps3
      go_wp2_with (first
      | (refine wpList_loadAll rfl 34 _ rfl w.heap.size 19 A rfl hS.o1 Tryd.isAgg34 Tryd.sizeOf34 hzA ?_)
      | (refine wpList_guard (by rfl) ?_; refine wpList_loadAll rfl 34 _ rfl w.heap.size 19 A rfl hS.o1 Tryd.isAgg34 Tryd.sizeOf34 hzA ?_)
      | (refine wpList_loadAll rfl 34 _ rfl (w.heap.size + 1) 19 B rfl hS.o2 Tryd.isAgg34 Tryd.sizeOf34 hzB ?_)
      | (refine wpList_guard (by rfl) ?_; refine wpList_loadAll rfl 34 _ rfl (w.heap.size + 1) 19 B rfl hS.o2 Tryd.isAgg34 Tryd.sizeOf34 hzB ?_)
      | (go_at_call 4; (with_reducible refine (HL1 _).mono ?_); rintro ex wx ⟨rfl, hx⟩; have hS := hS.below hx; clear hx)
      | (go_at_call 4; (with_reducible refine (HL2 _).mono ?_); rintro ex wx ⟨rfl, hx⟩; have hS := hS.below hx; clear hx)
      | (go_at_call 5; (with_reducible refine (HAw _ hS).mono ?_); rintro ex wx ⟨rfl, hx⟩; have hb9 := hS.hb.trans (hx.mono hS.hb.size))
)
      go_ret
      exact ⟨rfl, hb9⟩

/-- The same, its arguments in the order of the law's. -/
theorem eventSame_walk (e : EventN) (a : Option Addr) (n c : Nat) (f : EventN) (b : Option Addr) (m d : Nat) (w : World) (h : RowOf encD 3 w a n c e.over) (h1 : e.item.name.length ≤ maxLen) (h2 : e.item.dom.length ≤ maxLen) (h3 : e.item.path.length ≤ maxLen) (h4 : e.item.val.length ≤ maxLen)
    (k : RowOf encD 3 w b m d f.over) (k1 : f.item.name.length ≤ maxLen) (k2 : f.item.dom.length ≤ maxLen) (k3 : f.item.path.length ≤ maxLen) (k4 : f.item.val.length ≤ maxLen) (hT : ETb w) :
    Calls Tryd.prog 3 #[.agg #[.int .i64 e.dot.dev, .int .i64 e.dot.inc, .int .i64 e.dot.seq, .int .i64 e.stamp.wall, .int .i64 e.stamp.count, .int .i64 e.stamp.dev, .int .i64 e.kind, .string (str e.item.name), .string (str e.item.dom), .string (str e.item.path), .string (str e.item.val), .bool e.item.host, .bool e.item.sec, .bool e.item.http, .bool e.item.pers, .int .i64 e.item.exp, .int .i64 e.item.made, .int .i64 e.item.used, .slice a n c], .agg #[.int .i64 f.dot.dev, .int .i64 f.dot.inc, .int .i64 f.dot.seq, .int .i64 f.stamp.wall, .int .i64 f.stamp.count, .int .i64 f.stamp.dev, .int .i64 f.kind, .string (str f.item.name), .string (str f.item.dom), .string (str f.item.path), .string (str f.item.val), .bool f.item.host, .bool f.item.sec, .bool f.item.http, .bool f.item.pers, .int .i64 f.item.exp, .int .i64 f.item.made, .int .i64 f.item.used, .slice b m d]] w fun en w' => en = .returned (.bool true) ∧ Below w.heap.size w w' :=
  eventSame_walk0 e f a b n c m d w h k h1 h2 h3 h4 k1 k2 k3 k4 hT
end Go.Proofs.YtkakcdojbgnocaaDoor
