/- Layer 15's laws, walked: which items are ahead. -/
import Derived.Test.YtjocnhkapiiblaaDoorLibAK
namespace Go.Proofs.YtjocnhkapiiblaaDoor
open Go.RowKit
set_option linter.unusedVariables false

set_option maxHeartbeats 8000000 in
set_option maxRecDepth 100000 in
theorem matchOrders_walk (x y : ItemL) (w : World) (hx : fitI x) (hy : fitI y) (hT : MTb w) :
    Calls Tryd.prog 3 #[.agg #[.string (str x.name), .string (str x.dom), .string (str x.path), .string (str x.val), .bool x.host, .bool x.sec, .bool x.http, .bool x.pers, .int .i64 x.exp, .int .i64 x.made, .int .i64 x.used], .agg #[.string (str y.name), .string (str y.dom), .string (str y.path), .string (str y.val), .bool y.host, .bool y.sec, .bool y.http, .bool y.pers, .int .i64 y.exp, .int .i64 y.made, .int .i64 y.used]] w fun e w' => e = .returned (.bool true) ∧ Below w.heap.size w w' := by
  obtain ⟨o1, o2, hb⟩ := two_obj w #[.string (str x.name), .string (str x.dom), .string (str x.path), .string (str x.val), .bool x.host, .bool x.sec, .bool x.http, .bool x.pers, .int .i64 x.exp, .int .i64 x.made, .int .i64 x.used] #[.string (str y.name), .string (str y.dom), .string (str y.path), .string (str y.val), .bool y.host, .bool y.sec, .bool y.http, .bool y.pers, .int .i64 y.exp, .int .i64 y.made, .int .i64 y.used] 27 27
  have s2 : ((w.alloc (.cells #[.string (str x.name), .string (str x.dom), .string (str x.path), .string (str x.val), .bool x.host, .bool x.sec, .bool x.http, .bool x.pers, .int .i64 x.exp, .int .i64 x.made, .int .i64 x.used] 27)).alloc (.cells #[.string (str y.name), .string (str y.dom), .string (str y.path), .string (str y.val), .bool y.host, .bool y.sec, .bool y.http, .bool y.pers, .int .i64 y.exp, .int .i64 y.made, .int .i64 y.used] 27)).heap.size = w.heap.size + 2 := by simp
  have hr := (OwnZ.new encI_len [x, y] #[.string (str x.name), .string (str x.dom), .string (str x.path), .string (str x.val), .bool x.host, .bool x.sec, .bool x.http, .bool x.pers, .int .i64 x.exp, .int .i64 x.made, .int .i64 x.used, .string (str y.name), .string (str y.dom), .string (str y.path), .string (str y.val), .bool y.host, .bool y.sec, .bool y.http, .bool y.pers, .int .i64 y.exp, .int .i64 y.made, .int .i64 y.used] rfl 2 rfl (by unfold maxLen; omega) 27 ((w.alloc (.cells #[.string (str x.name), .string (str x.dom), .string (str x.path), .string (str x.val), .bool x.host, .bool x.sec, .bool x.http, .bool x.pers, .int .i64 x.exp, .int .i64 x.made, .int .i64 x.used] 27)).alloc (.cells #[.string (str y.name), .string (str y.dom), .string (str y.path), .string (str y.val), .bool y.host, .bool y.sec, .bool y.http, .bool y.pers, .int .i64 y.exp, .int .i64 y.made, .int .i64 y.used] 27))).row encI_len
  have hbr := below_alloc ((w.alloc (.cells #[.string (str x.name), .string (str x.dom), .string (str x.path), .string (str x.val), .bool x.host, .bool x.sec, .bool x.http, .bool x.pers, .int .i64 x.exp, .int .i64 x.made, .int .i64 x.used] 27)).alloc (.cells #[.string (str y.name), .string (str y.dom), .string (str y.path), .string (str y.val), .bool y.host, .bool y.sec, .bool y.http, .bool y.pers, .int .i64 y.exp, .int .i64 y.made, .int .i64 y.used] 27)) (.cells #[.string (str x.name), .string (str x.dom), .string (str x.path), .string (str x.val), .bool x.host, .bool x.sec, .bool x.http, .bool x.pers, .int .i64 x.exp, .int .i64 x.made, .int .i64 x.used, .string (str y.name), .string (str y.dom), .string (str y.path), .string (str y.val), .bool y.host, .bool y.sec, .bool y.http, .bool y.pers, .int .i64 y.exp, .int .i64 y.made, .int .i64 y.used] 27)
  have HL := light15C _ 2 2 [x, y] _ hr (fun z hz => by rcases List.mem_cons.1 hz with rfl | hz; exact hx; rw [List.mem_singleton.1 hz]; exact hy)
  obtain ⟨p1, p2⟩ : ObjAt ((w.alloc (.cells #[.string (str x.name), .string (str x.dom), .string (str x.path), .string (str x.val), .bool x.host, .bool x.sec, .bool x.http, .bool x.pers, .int .i64 x.exp, .int .i64 x.made, .int .i64 x.used] 27)).alloc (.cells #[.string (str y.name), .string (str y.dom), .string (str y.path), .string (str y.val), .bool y.host, .bool y.sec, .bool y.http, .bool y.pers, .int .i64 y.exp, .int .i64 y.made, .int .i64 y.used] 27)) w.heap.size _ ∧ ObjAt ((w.alloc (.cells #[.string (str x.name), .string (str x.dom), .string (str x.path), .string (str x.val), .bool x.host, .bool x.sec, .bool x.http, .bool x.pers, .int .i64 x.exp, .int .i64 x.made, .int .i64 x.used] 27)).alloc (.cells #[.string (str y.name), .string (str y.dom), .string (str y.path), .string (str y.val), .bool y.host, .bool y.sec, .bool y.http, .bool y.pers, .int .i64 y.exp, .int .i64 y.made, .int .i64 y.used] 27)) (w.heap.size + 1) _ := ⟨o1, o2⟩
  have o1 := o1.below hbr o1.lt
  have o2 := o2.below hbr o2.lt
  have hb := hb.trans (hbr.mono hb.size)
  rw [s2] at HL
  have hT1 := hT.below hb
  have a0 := p1.cell 0 rfl; have a1 := p1.cell 1 rfl; have a2 := p1.cell 2 rfl; have a3 := p1.cell 3 rfl; have a4 := p1.cell 4 rfl; have a5 := p1.cell 5 rfl; have a6 := p1.cell 6 rfl; have a7 := p1.cell 7 rfl; have a8 := p1.cell 8 rfl; have a9 := p1.cell 9 rfl; have a10 := p1.cell 10 rfl; skip
  have b0 := p2.cell 0 rfl; have b1 := p2.cell 1 rfl; have b2 := p2.cell 2 rfl; have b3 := p2.cell 3 rfl; have b4 := p2.cell 4 rfl; have b5 := p2.cell 5 rfl; have b6 := p2.cell 6 rfl; have b7 := p2.cell 7 rfl; have b8 := p2.cell 8 rfl; have b9 := p2.cell 9 rfl; have b10 := p2.cell 10 rfl; skip
  have hk := str_toList
  cases hl : lightI [x, y] with
  | false =>
    rw [hl] at HL
    clear o1 o2 p1 p2
    go_enter Tryd.func3, Tryd.ntmps3
    go_wp2_with (first
      | (go_at_call 6; (with_reducible refine HL.mono ?_); rintro e w1 ⟨rfl, rfl⟩)
      | (go_at_call 7; (with_reducible refine (awake15C _ hT1).mono ?_); rintro e w2 ⟨rfl, hx⟩; have hb2 := hb.trans (hx.mono hb.size)))
    go_ret
    exact ⟨rfl, hb2⟩
  | true =>
  rw [hl] at HL
  have hsx : shortI x = true ∧ shortI y = true := by
    unfold lightI at hl
    simp only [List.all_cons, List.all_nil, Bool.and_true, Bool.and_eq_true] at hl
    exact hl.2
  have HB1 := fun v t => matchBeforeC x y v hsx.1 hsx.2 t
  have HB2 := fun v t => matchBeforeC y x v hsx.2 hsx.1 t
  have HK1 := fun v t => matchLessC x y v hsx.1 hsx.2 t
  have HK2 := fun v t => matchLessC y x v hsx.2 hsx.1 t
  have HR1 := fun v => refAheadC x y v hx.2.2.1 hy.2.2.1
  have HQ1 := fun v => refKeyLessC x y v
  have hE := fun v => eqKey2 x y v
  have hS1 : ∀ w', Below (((w.alloc (.cells #[.string (str x.name), .string (str x.dom), .string (str x.path), .string (str x.val), .bool x.host, .bool x.sec, .bool x.http, .bool x.pers, .int .i64 x.exp, .int .i64 x.made, .int .i64 x.used] 27)).alloc (.cells #[.string (str y.name), .string (str y.dom), .string (str y.path), .string (str y.val), .bool y.host, .bool y.sec, .bool y.http, .bool y.pers, .int .i64 y.exp, .int .i64 y.made, .int .i64 y.used] 27)).alloc (.cells #[.string (str x.name), .string (str x.dom), .string (str x.path), .string (str x.val), .bool x.host, .bool x.sec, .bool x.http, .bool x.pers, .int .i64 x.exp, .int .i64 x.made, .int .i64 x.used, .string (str y.name), .string (str y.dom), .string (str y.path), .string (str y.val), .bool y.host, .bool y.sec, .bool y.http, .bool y.pers, .int .i64 y.exp, .int .i64 y.made, .int .i64 y.used] 27)).heap.size (((w.alloc (.cells #[.string (str x.name), .string (str x.dom), .string (str x.path), .string (str x.val), .bool x.host, .bool x.sec, .bool x.http, .bool x.pers, .int .i64 x.exp, .int .i64 x.made, .int .i64 x.used] 27)).alloc (.cells #[.string (str y.name), .string (str y.dom), .string (str y.path), .string (str y.val), .bool y.host, .bool y.sec, .bool y.http, .bool y.pers, .int .i64 y.exp, .int .i64 y.made, .int .i64 y.used] 27)).alloc (.cells #[.string (str x.name), .string (str x.dom), .string (str x.path), .string (str x.val), .bool x.host, .bool x.sec, .bool x.http, .bool x.pers, .int .i64 x.exp, .int .i64 x.made, .int .i64 x.used, .string (str y.name), .string (str y.dom), .string (str y.path), .string (str y.val), .bool y.host, .bool y.sec, .bool y.http, .bool y.pers, .int .i64 y.exp, .int .i64 y.made, .int .i64 y.used] 27)) w' → w'.cell? ⟨w.heap.size, 0, none⟩ = some (.string (str x.name)) ∧ w'.cell? ⟨w.heap.size, 1, none⟩ = some (.string (str x.dom)) ∧ w'.cell? ⟨w.heap.size, 2, none⟩ = some (.string (str x.path)) ∧ w'.cell? ⟨w.heap.size, 3, none⟩ = some (.string (str x.val)) ∧ w'.cell? ⟨w.heap.size, 4, none⟩ = some (.bool x.host) ∧ w'.cell? ⟨w.heap.size, 5, none⟩ = some (.bool x.sec) ∧ w'.cell? ⟨w.heap.size, 6, none⟩ = some (.bool x.http) ∧ w'.cell? ⟨w.heap.size, 7, none⟩ = some (.bool x.pers) ∧ w'.cell? ⟨w.heap.size, 8, none⟩ = some (.int .i64 x.exp) ∧ w'.cell? ⟨w.heap.size, 9, none⟩ = some (.int .i64 x.made) ∧ w'.cell? ⟨w.heap.size, 10, none⟩ = some (.int .i64 x.used) ∧ w'.cell? ⟨w.heap.size + 1, 0, none⟩ = some (.string (str y.name)) ∧ w'.cell? ⟨w.heap.size + 1, 1, none⟩ = some (.string (str y.dom)) ∧ w'.cell? ⟨w.heap.size + 1, 2, none⟩ = some (.string (str y.path)) ∧ w'.cell? ⟨w.heap.size + 1, 3, none⟩ = some (.string (str y.val)) ∧ w'.cell? ⟨w.heap.size + 1, 4, none⟩ = some (.bool y.host) ∧ w'.cell? ⟨w.heap.size + 1, 5, none⟩ = some (.bool y.sec) ∧ w'.cell? ⟨w.heap.size + 1, 6, none⟩ = some (.bool y.http) ∧ w'.cell? ⟨w.heap.size + 1, 7, none⟩ = some (.bool y.pers) ∧ w'.cell? ⟨w.heap.size + 1, 8, none⟩ = some (.int .i64 y.exp) ∧ w'.cell? ⟨w.heap.size + 1, 9, none⟩ = some (.int .i64 y.made) ∧ w'.cell? ⟨w.heap.size + 1, 10, none⟩ = some (.int .i64 y.used) := fun w' hx => by
    have q1 := o1.below hx o1.lt
    have q2 := o2.below hx o2.lt
    exact ⟨q1.cell 0 rfl, q1.cell 1 rfl, q1.cell 2 rfl, q1.cell 3 rfl, q1.cell 4 rfl, q1.cell 5 rfl, q1.cell 6 rfl, q1.cell 7 rfl, q1.cell 8 rfl, q1.cell 9 rfl, q1.cell 10 rfl, q2.cell 0 rfl, q2.cell 1 rfl, q2.cell 2 rfl, q2.cell 3 rfl, q2.cell 4 rfl, q2.cell 5 rfl, q2.cell 6 rfl, q2.cell 7 rfl, q2.cell 8 rfl, q2.cell 9 rfl, q2.cell 10 rfl⟩
  have hTW := hT1
  have hbW := hb
  clear hl hsx hx hy hbr p1 p2 hb hT1
  have htot : sameKey x y = false → ahead y x = !ahead x y ∧ keyLess y x = !keyLess x y := fun h => ⟨by rw [ahead_total (by rw [same_key_comm]; exact h)], by rw [key_total (by rw [same_key_comm]; exact h)]⟩
  obtain ⟨A, hA⟩ : ∃ A, ahead x y = A := ⟨_, rfl⟩
  obtain ⟨K, hK⟩ : ∃ K, keyLess x y = K := ⟨_, rfl⟩
  simp only [hA] at HB1 HR1
  simp only [hK] at HK1 HQ1
  rw [hA, hK] at htot
  cases hs : sameKey x y with
  | true =>
    simp only [hs] at hE
    clear htot hA hK HB2 HK2
    have f1 : (A != A) = false := by simp
    have f2 : (K != K) = false := by simp
    have f3 : (A != !A) = true := by cases A <;> rfl
    have f4 : (K != !K) = true := by cases K <;> rfl
    go_enter Tryd.func3, Tryd.ntmps3
    go_wp2_with (go_at_call 6; (with_reducible refine HL.mono ?_); rintro e w1 ⟨rfl, rfl⟩)
    refine wp_any (fun w1 => Below w.heap.size w w1 ∧ MTb w1 ∧ ∀ w', Below w1.heap.size w1 w' → w'.cell? ⟨w.heap.size, 0, none⟩ = some (.string (str x.name)) ∧ w'.cell? ⟨w.heap.size, 1, none⟩ = some (.string (str x.dom)) ∧ w'.cell? ⟨w.heap.size, 2, none⟩ = some (.string (str x.path)) ∧ w'.cell? ⟨w.heap.size, 3, none⟩ = some (.string (str x.val)) ∧ w'.cell? ⟨w.heap.size, 4, none⟩ = some (.bool x.host) ∧ w'.cell? ⟨w.heap.size, 5, none⟩ = some (.bool x.sec) ∧ w'.cell? ⟨w.heap.size, 6, none⟩ = some (.bool x.http) ∧ w'.cell? ⟨w.heap.size, 7, none⟩ = some (.bool x.pers) ∧ w'.cell? ⟨w.heap.size, 8, none⟩ = some (.int .i64 x.exp) ∧ w'.cell? ⟨w.heap.size, 9, none⟩ = some (.int .i64 x.made) ∧ w'.cell? ⟨w.heap.size, 10, none⟩ = some (.int .i64 x.used) ∧ w'.cell? ⟨w.heap.size + 1, 0, none⟩ = some (.string (str y.name)) ∧ w'.cell? ⟨w.heap.size + 1, 1, none⟩ = some (.string (str y.dom)) ∧ w'.cell? ⟨w.heap.size + 1, 2, none⟩ = some (.string (str y.path)) ∧ w'.cell? ⟨w.heap.size + 1, 3, none⟩ = some (.string (str y.val)) ∧ w'.cell? ⟨w.heap.size + 1, 4, none⟩ = some (.bool y.host) ∧ w'.cell? ⟨w.heap.size + 1, 5, none⟩ = some (.bool y.sec) ∧ w'.cell? ⟨w.heap.size + 1, 6, none⟩ = some (.bool y.http) ∧ w'.cell? ⟨w.heap.size + 1, 7, none⟩ = some (.bool y.pers) ∧ w'.cell? ⟨w.heap.size + 1, 8, none⟩ = some (.int .i64 y.exp) ∧ w'.cell? ⟨w.heap.size + 1, 9, none⟩ = some (.int .i64 y.made) ∧ w'.cell? ⟨w.heap.size + 1, 10, none⟩ = some (.int .i64 y.used)) ⟨hbW, hTW, hS1⟩ ?_
    clear hbW hTW hS1 o1 o2
    rintro w1 ⟨hbW, hT1, hS0⟩
    have hB1 : Below w1.heap.size w1 w1.drew := (Below.refl _ w1).drew
    go_region_held3 (fun w' => w'.cell? ⟨w.heap.size, 0, none⟩ = some (.string (str x.name)) ∧ w'.cell? ⟨w.heap.size, 1, none⟩ = some (.string (str x.dom)) ∧ w'.cell? ⟨w.heap.size, 2, none⟩ = some (.string (str x.path)) ∧ w'.cell? ⟨w.heap.size, 3, none⟩ = some (.string (str x.val)) ∧ w'.cell? ⟨w.heap.size, 4, none⟩ = some (.bool x.host) ∧ w'.cell? ⟨w.heap.size, 5, none⟩ = some (.bool x.sec) ∧ w'.cell? ⟨w.heap.size, 6, none⟩ = some (.bool x.http) ∧ w'.cell? ⟨w.heap.size, 7, none⟩ = some (.bool x.pers) ∧ w'.cell? ⟨w.heap.size, 8, none⟩ = some (.int .i64 x.exp) ∧ w'.cell? ⟨w.heap.size, 9, none⟩ = some (.int .i64 x.made) ∧ w'.cell? ⟨w.heap.size, 10, none⟩ = some (.int .i64 x.used) ∧ w'.cell? ⟨w.heap.size + 1, 0, none⟩ = some (.string (str y.name)) ∧ w'.cell? ⟨w.heap.size + 1, 1, none⟩ = some (.string (str y.dom)) ∧ w'.cell? ⟨w.heap.size + 1, 2, none⟩ = some (.string (str y.path)) ∧ w'.cell? ⟨w.heap.size + 1, 3, none⟩ = some (.string (str y.val)) ∧ w'.cell? ⟨w.heap.size + 1, 4, none⟩ = some (.bool y.host) ∧ w'.cell? ⟨w.heap.size + 1, 5, none⟩ = some (.bool y.sec) ∧ w'.cell? ⟨w.heap.size + 1, 6, none⟩ = some (.bool y.http) ∧ w'.cell? ⟨w.heap.size + 1, 7, none⟩ = some (.bool y.pers) ∧ w'.cell? ⟨w.heap.size + 1, 8, none⟩ = some (.int .i64 y.exp) ∧ w'.cell? ⟨w.heap.size + 1, 9, none⟩ = some (.int .i64 y.made) ∧ w'.cell? ⟨w.heap.size + 1, 10, none⟩ = some (.int .i64 y.used))
      (first | exact hS0 _ hB1)
      (first
        | (go_at_call 8; (with_reducible refine (HB1 _ (hT1.below hB1)).mono ?_); rintro e w3 ⟨rfl, hx⟩; have hB1 := hB1.trans (hx.mono hB1.size); clear hx)
        | (go_at_call 9; (with_reducible refine (HR1 _).mono ?_); rintro e w3 ⟨rfl, hx⟩; have hB1 := hB1.trans (hx.mono hB1.size); clear hx)
        | (go_at_call 10; (with_reducible refine (HK1 _ (hT1.below hB1)).mono ?_); rintro e w3 ⟨rfl, hx⟩; have hB1 := hB1.trans (hx.mono hB1.size); clear hx)
        | (go_at_call 11; (with_reducible refine (HQ1 _).mono ?_); rintro e w3 ⟨rfl, hx⟩; have hB1 := hB1.trans (hx.mono hB1.size); clear hx))
    all_goals
      go_wp2_with fail
      refine wp_any (fun w1 => Below w.heap.size w w1 ∧ MTb w1 ∧ ∀ w', Below w1.heap.size w1 w' → w'.cell? ⟨w.heap.size, 0, none⟩ = some (.string (str x.name)) ∧ w'.cell? ⟨w.heap.size, 1, none⟩ = some (.string (str x.dom)) ∧ w'.cell? ⟨w.heap.size, 2, none⟩ = some (.string (str x.path)) ∧ w'.cell? ⟨w.heap.size, 3, none⟩ = some (.string (str x.val)) ∧ w'.cell? ⟨w.heap.size, 4, none⟩ = some (.bool x.host) ∧ w'.cell? ⟨w.heap.size, 5, none⟩ = some (.bool x.sec) ∧ w'.cell? ⟨w.heap.size, 6, none⟩ = some (.bool x.http) ∧ w'.cell? ⟨w.heap.size, 7, none⟩ = some (.bool x.pers) ∧ w'.cell? ⟨w.heap.size, 8, none⟩ = some (.int .i64 x.exp) ∧ w'.cell? ⟨w.heap.size, 9, none⟩ = some (.int .i64 x.made) ∧ w'.cell? ⟨w.heap.size, 10, none⟩ = some (.int .i64 x.used) ∧ w'.cell? ⟨w.heap.size + 1, 0, none⟩ = some (.string (str y.name)) ∧ w'.cell? ⟨w.heap.size + 1, 1, none⟩ = some (.string (str y.dom)) ∧ w'.cell? ⟨w.heap.size + 1, 2, none⟩ = some (.string (str y.path)) ∧ w'.cell? ⟨w.heap.size + 1, 3, none⟩ = some (.string (str y.val)) ∧ w'.cell? ⟨w.heap.size + 1, 4, none⟩ = some (.bool y.host) ∧ w'.cell? ⟨w.heap.size + 1, 5, none⟩ = some (.bool y.sec) ∧ w'.cell? ⟨w.heap.size + 1, 6, none⟩ = some (.bool y.http) ∧ w'.cell? ⟨w.heap.size + 1, 7, none⟩ = some (.bool y.pers) ∧ w'.cell? ⟨w.heap.size + 1, 8, none⟩ = some (.int .i64 y.exp) ∧ w'.cell? ⟨w.heap.size + 1, 9, none⟩ = some (.int .i64 y.made) ∧ w'.cell? ⟨w.heap.size + 1, 10, none⟩ = some (.int .i64 y.used)) ⟨hbW.trans (hB1.mono hbW.size), hT1.below hB1, fun w' hw => hS0 w' (hB1.trans (hw.mono hB1.size))⟩ ?_
      clear hbW hT1 hS0 hB1
      rintro w2 ⟨hbW, hT1, hS0⟩
      have hB1 : Below w2.heap.size w2 w2.drew := (Below.refl _ w2).drew
      refine wp_region_held_drew (S := fun w' => w'.cell? ⟨w.heap.size, 0, none⟩ = some (.string (str x.name)) ∧ w'.cell? ⟨w.heap.size, 1, none⟩ = some (.string (str x.dom)) ∧ w'.cell? ⟨w.heap.size, 2, none⟩ = some (.string (str x.path)) ∧ w'.cell? ⟨w.heap.size, 3, none⟩ = some (.string (str x.val)) ∧ w'.cell? ⟨w.heap.size, 4, none⟩ = some (.bool x.host) ∧ w'.cell? ⟨w.heap.size, 5, none⟩ = some (.bool x.sec) ∧ w'.cell? ⟨w.heap.size, 6, none⟩ = some (.bool x.http) ∧ w'.cell? ⟨w.heap.size, 7, none⟩ = some (.bool x.pers) ∧ w'.cell? ⟨w.heap.size, 8, none⟩ = some (.int .i64 x.exp) ∧ w'.cell? ⟨w.heap.size, 9, none⟩ = some (.int .i64 x.made) ∧ w'.cell? ⟨w.heap.size, 10, none⟩ = some (.int .i64 x.used) ∧ w'.cell? ⟨w.heap.size + 1, 0, none⟩ = some (.string (str y.name)) ∧ w'.cell? ⟨w.heap.size + 1, 1, none⟩ = some (.string (str y.dom)) ∧ w'.cell? ⟨w.heap.size + 1, 2, none⟩ = some (.string (str y.path)) ∧ w'.cell? ⟨w.heap.size + 1, 3, none⟩ = some (.string (str y.val)) ∧ w'.cell? ⟨w.heap.size + 1, 4, none⟩ = some (.bool y.host) ∧ w'.cell? ⟨w.heap.size + 1, 5, none⟩ = some (.bool y.sec) ∧ w'.cell? ⟨w.heap.size + 1, 6, none⟩ = some (.bool y.http) ∧ w'.cell? ⟨w.heap.size + 1, 7, none⟩ = some (.bool y.pers) ∧ w'.cell? ⟨w.heap.size + 1, 8, none⟩ = some (.int .i64 y.exp) ∧ w'.cell? ⟨w.heap.size + 1, 9, none⟩ = some (.int .i64 y.made) ∧ w'.cell? ⟨w.heap.size + 1, 10, none⟩ = some (.int .i64 y.used)) (by kernel_rfl) (hS0 _ hB1) (fun hHeld => ?_)
      first
        | (refine wpAnyH_take (i := 0) rfl (by kernel_rfl) (by kernel_rfl) (by kernel_rfl) (fun _ _ _ h => h) (Or.inr ⟨by rfl, rfl⟩) (by assumption) ?_)
        | (refine wpAnyH_take (i := 0) (v := ?v7x0) rfl (by kernel_rfl) (by kernel_rfl) (by kernel_rfl) (fun _ _ _ h => h) (Or.inl ⟨by rfl, ?hy7x0⟩) (by assumption) ?r7x0; case hy7x0 => (rintro w' ⟨hs0, hs1, hs2, hs3, hs4, hs5, hs6, hs7, hs8, hs9, hs10, hs11, hs12, hs13, hs14, hs15, hs16, hs17, hs18, hs19, hs20, hs21⟩; go_simp; try with_reducible rfl))
      try simp only [List.getElem_toArray, List.getElem_cons_zero, Act.put, List.setIfInBounds_toArray, List.set_cons_zero, List.set_cons_succ]
      first
        | (refine wpAnyH_take (i := 1) rfl (by kernel_rfl) (by kernel_rfl) (by kernel_rfl) (fun _ _ _ h => h) (Or.inr ⟨by rfl, rfl⟩) (by assumption) ?_)
        | (refine wpAnyH_take (i := 1) (v := ?v7x1) rfl (by kernel_rfl) (by kernel_rfl) (by kernel_rfl) (fun _ _ _ h => h) (Or.inl ⟨by rfl, ?hy7x1⟩) (by assumption) ?r7x1; case hy7x1 => (rintro w' ⟨hs0, hs1, hs2, hs3, hs4, hs5, hs6, hs7, hs8, hs9, hs10, hs11, hs12, hs13, hs14, hs15, hs16, hs17, hs18, hs19, hs20, hs21⟩; go_simp; try with_reducible rfl))
      try simp only [List.getElem_toArray, List.getElem_cons_zero, List.getElem_cons_succ, Act.put, List.setIfInBounds_toArray, List.set_cons_zero, List.set_cons_succ]
      first
        | (refine wpAnyH_take (i := 2) rfl (by kernel_rfl) (by kernel_rfl) (by kernel_rfl) (fun _ _ _ h => h) (Or.inr ⟨by rfl, rfl⟩) (by assumption) ?_)
        | (refine wpAnyH_take (i := 2) (v := ?v7x2) rfl (by kernel_rfl) (by kernel_rfl) (by kernel_rfl) (fun _ _ _ h => h) (Or.inl ⟨by rfl, ?hy7x2⟩) (by assumption) ?r7x2; case hy7x2 => (rintro w' ⟨hs0, hs1, hs2, hs3, hs4, hs5, hs6, hs7, hs8, hs9, hs10, hs11, hs12, hs13, hs14, hs15, hs16, hs17, hs18, hs19, hs20, hs21⟩; go_simp; try with_reducible rfl))
      try simp only [List.getElem_toArray, List.getElem_cons_zero, List.getElem_cons_succ, Act.put, List.setIfInBounds_toArray, List.set_cons_zero, List.set_cons_succ]
      first
        | (refine wpAnyH_take (i := 3) rfl (by kernel_rfl) (by kernel_rfl) (by kernel_rfl) (fun _ _ _ h => h) (Or.inr ⟨by rfl, rfl⟩) (by assumption) ?_)
        | (refine wpAnyH_take (i := 3) (v := ?v7x3) rfl (by kernel_rfl) (by kernel_rfl) (by kernel_rfl) (fun _ _ _ h => h) (Or.inl ⟨by rfl, ?hy7x3⟩) (by assumption) ?r7x3; case hy7x3 => (rintro w' ⟨hs0, hs1, hs2, hs3, hs4, hs5, hs6, hs7, hs8, hs9, hs10, hs11, hs12, hs13, hs14, hs15, hs16, hs17, hs18, hs19, hs20, hs21⟩; go_simp; try with_reducible rfl))
      try simp only [List.getElem_toArray, List.getElem_cons_zero, List.getElem_cons_succ, Act.put, List.setIfInBounds_toArray, List.set_cons_zero, List.set_cons_succ]
      first
        | (refine wpAnyH_take (i := 4) rfl (by kernel_rfl) (by kernel_rfl) (by kernel_rfl) (fun _ _ _ h => h) (Or.inr ⟨by rfl, rfl⟩) (by assumption) ?_)
        | (refine wpAnyH_take (i := 4) (v := ?v7x4) rfl (by kernel_rfl) (by kernel_rfl) (by kernel_rfl) (fun _ _ _ h => h) (Or.inl ⟨by rfl, ?hy7x4⟩) (by assumption) ?r7x4; case hy7x4 => (rintro w' ⟨hs0, hs1, hs2, hs3, hs4, hs5, hs6, hs7, hs8, hs9, hs10, hs11, hs12, hs13, hs14, hs15, hs16, hs17, hs18, hs19, hs20, hs21⟩; go_simp; try with_reducible rfl))
      try simp only [List.getElem_toArray, List.getElem_cons_zero, List.getElem_cons_succ, Act.put, List.setIfInBounds_toArray, List.set_cons_zero, List.set_cons_succ]
      first
        | (refine wpAnyH_take (i := 5) rfl (by kernel_rfl) (by kernel_rfl) (by kernel_rfl) (fun _ _ _ h => h) (Or.inr ⟨by rfl, rfl⟩) (by assumption) ?_)
        | (refine wpAnyH_take (i := 5) (v := ?v7x5) rfl (by kernel_rfl) (by kernel_rfl) (by kernel_rfl) (fun _ _ _ h => h) (Or.inl ⟨by rfl, ?hy7x5⟩) (by assumption) ?r7x5; case hy7x5 => (rintro w' ⟨hs0, hs1, hs2, hs3, hs4, hs5, hs6, hs7, hs8, hs9, hs10, hs11, hs12, hs13, hs14, hs15, hs16, hs17, hs18, hs19, hs20, hs21⟩; go_simp; try with_reducible rfl))
      try simp only [List.getElem_toArray, List.getElem_cons_zero, List.getElem_cons_succ, Act.put, List.setIfInBounds_toArray, List.set_cons_zero, List.set_cons_succ]
      first
        | (refine wpAnyH_take (i := 6) rfl (by kernel_rfl) (by kernel_rfl) (by kernel_rfl) (fun _ _ _ h => h) (Or.inr ⟨by rfl, rfl⟩) (by assumption) ?_)
        | (refine wpAnyH_take (i := 6) (v := ?v7x6) rfl (by kernel_rfl) (by kernel_rfl) (by kernel_rfl) (fun _ _ _ h => h) (Or.inl ⟨by rfl, ?hy7x6⟩) (by assumption) ?r7x6; case hy7x6 => (rintro w' ⟨hs0, hs1, hs2, hs3, hs4, hs5, hs6, hs7, hs8, hs9, hs10, hs11, hs12, hs13, hs14, hs15, hs16, hs17, hs18, hs19, hs20, hs21⟩; go_simp; try with_reducible rfl))
      try simp only [List.getElem_toArray, List.getElem_cons_zero, List.getElem_cons_succ, Act.put, List.setIfInBounds_toArray, List.set_cons_zero, List.set_cons_succ]
      first
        | (refine wpAnyH_take (i := 7) rfl (by kernel_rfl) (by kernel_rfl) (by kernel_rfl) (fun _ _ _ h => h) (Or.inr ⟨by rfl, rfl⟩) (by assumption) ?_)
        | (refine wpAnyH_take (i := 7) (v := ?v7x7) rfl (by kernel_rfl) (by kernel_rfl) (by kernel_rfl) (fun _ _ _ h => h) (Or.inl ⟨by rfl, ?hy7x7⟩) (by assumption) ?r7x7; case hy7x7 => (rintro w' ⟨hs0, hs1, hs2, hs3, hs4, hs5, hs6, hs7, hs8, hs9, hs10, hs11, hs12, hs13, hs14, hs15, hs16, hs17, hs18, hs19, hs20, hs21⟩; go_simp; try with_reducible rfl))
      try simp only [List.getElem_toArray, List.getElem_cons_zero, List.getElem_cons_succ, Act.put, List.setIfInBounds_toArray, List.set_cons_zero, List.set_cons_succ]
      first
        | (refine wpAnyH_take (i := 8) rfl (by kernel_rfl) (by kernel_rfl) (by kernel_rfl) (fun _ _ _ h => h) (Or.inr ⟨by rfl, rfl⟩) (by assumption) ?_)
        | (refine wpAnyH_take (i := 8) (v := ?v7x8) rfl (by kernel_rfl) (by kernel_rfl) (by kernel_rfl) (fun _ _ _ h => h) (Or.inl ⟨by rfl, ?hy7x8⟩) (by assumption) ?r7x8; case hy7x8 => (rintro w' ⟨hs0, hs1, hs2, hs3, hs4, hs5, hs6, hs7, hs8, hs9, hs10, hs11, hs12, hs13, hs14, hs15, hs16, hs17, hs18, hs19, hs20, hs21⟩; go_simp; try with_reducible rfl))
      try simp only [List.getElem_toArray, List.getElem_cons_zero, List.getElem_cons_succ, Act.put, List.setIfInBounds_toArray, List.set_cons_zero, List.set_cons_succ]
      first
        | (refine wpAnyH_take (i := 9) rfl (by kernel_rfl) (by kernel_rfl) (by kernel_rfl) (fun _ _ _ h => h) (Or.inr ⟨by rfl, rfl⟩) (by assumption) ?_)
        | (refine wpAnyH_take (i := 9) (v := ?v7x9) rfl (by kernel_rfl) (by kernel_rfl) (by kernel_rfl) (fun _ _ _ h => h) (Or.inl ⟨by rfl, ?hy7x9⟩) (by assumption) ?r7x9; case hy7x9 => (rintro w' ⟨hs0, hs1, hs2, hs3, hs4, hs5, hs6, hs7, hs8, hs9, hs10, hs11, hs12, hs13, hs14, hs15, hs16, hs17, hs18, hs19, hs20, hs21⟩; go_simp; try with_reducible rfl))
      try simp only [List.getElem_toArray, List.getElem_cons_zero, List.getElem_cons_succ, Act.put, List.setIfInBounds_toArray, List.set_cons_zero, List.set_cons_succ]
      first
        | (refine wpAnyH_take (i := 10) rfl (by kernel_rfl) (by kernel_rfl) (by kernel_rfl) (fun _ _ _ h => h) (Or.inr ⟨by rfl, rfl⟩) (by assumption) ?_)
        | (refine wpAnyH_take (i := 10) (v := ?v7x10) rfl (by kernel_rfl) (by kernel_rfl) (by kernel_rfl) (fun _ _ _ h => h) (Or.inl ⟨by rfl, ?hy7x10⟩) (by assumption) ?r7x10; case hy7x10 => (rintro w' ⟨hs0, hs1, hs2, hs3, hs4, hs5, hs6, hs7, hs8, hs9, hs10, hs11, hs12, hs13, hs14, hs15, hs16, hs17, hs18, hs19, hs20, hs21⟩; go_simp; try with_reducible rfl))
      try simp only [List.getElem_toArray, List.getElem_cons_zero, List.getElem_cons_succ, Act.put, List.setIfInBounds_toArray, List.set_cons_zero, List.set_cons_succ]
      first
        | (refine wpAnyH_take (i := 11) rfl (by kernel_rfl) (by kernel_rfl) (by kernel_rfl) (fun _ _ _ h => h) (Or.inr ⟨by rfl, rfl⟩) (by assumption) ?_)
        | (refine wpAnyH_take (i := 11) (v := ?v7x11) rfl (by kernel_rfl) (by kernel_rfl) (by kernel_rfl) (fun _ _ _ h => h) (Or.inl ⟨by rfl, ?hy7x11⟩) (by assumption) ?r7x11; case hy7x11 => (rintro w' ⟨hs0, hs1, hs2, hs3, hs4, hs5, hs6, hs7, hs8, hs9, hs10, hs11, hs12, hs13, hs14, hs15, hs16, hs17, hs18, hs19, hs20, hs21⟩; go_simp; try with_reducible rfl))
      try simp only [List.getElem_toArray, List.getElem_cons_zero, List.getElem_cons_succ, Act.put, List.setIfInBounds_toArray, List.set_cons_zero, List.set_cons_succ]
      first
        | (refine wpAnyH_take (i := 12) rfl (by kernel_rfl) (by kernel_rfl) (by kernel_rfl) (fun _ _ _ h => h) (Or.inr ⟨by rfl, rfl⟩) (by assumption) ?_)
        | (refine wpAnyH_take (i := 12) (v := ?v7x12) rfl (by kernel_rfl) (by kernel_rfl) (by kernel_rfl) (fun _ _ _ h => h) (Or.inl ⟨by rfl, ?hy7x12⟩) (by assumption) ?r7x12; case hy7x12 => (rintro w' ⟨hs0, hs1, hs2, hs3, hs4, hs5, hs6, hs7, hs8, hs9, hs10, hs11, hs12, hs13, hs14, hs15, hs16, hs17, hs18, hs19, hs20, hs21⟩; go_simp; try with_reducible rfl))
      try simp only [List.getElem_toArray, List.getElem_cons_zero, List.getElem_cons_succ, Act.put, List.setIfInBounds_toArray, List.set_cons_zero, List.set_cons_succ]
      first
        | (refine wpAnyH_take (i := 13) rfl (by kernel_rfl) (by kernel_rfl) (by kernel_rfl) (fun _ _ _ h => h) (Or.inr ⟨by rfl, rfl⟩) (by assumption) ?_)
        | (refine wpAnyH_take (i := 13) (v := ?v7x13) rfl (by kernel_rfl) (by kernel_rfl) (by kernel_rfl) (fun _ _ _ h => h) (Or.inl ⟨by rfl, ?hy7x13⟩) (by assumption) ?r7x13; case hy7x13 => (rintro w' ⟨hs0, hs1, hs2, hs3, hs4, hs5, hs6, hs7, hs8, hs9, hs10, hs11, hs12, hs13, hs14, hs15, hs16, hs17, hs18, hs19, hs20, hs21⟩; go_simp; try with_reducible rfl))
      try simp only [List.getElem_toArray, List.getElem_cons_zero, List.getElem_cons_succ, Act.put, List.setIfInBounds_toArray, List.set_cons_zero, List.set_cons_succ]
      first
        | (refine wpAnyH_take (i := 14) rfl (by kernel_rfl) (by kernel_rfl) (by kernel_rfl) (fun _ _ _ h => h) (Or.inr ⟨by rfl, rfl⟩) (by assumption) ?_)
        | (refine wpAnyH_take (i := 14) (v := ?v7x14) rfl (by kernel_rfl) (by kernel_rfl) (by kernel_rfl) (fun _ _ _ h => h) (Or.inl ⟨by rfl, ?hy7x14⟩) (by assumption) ?r7x14; case hy7x14 => (rintro w' ⟨hs0, hs1, hs2, hs3, hs4, hs5, hs6, hs7, hs8, hs9, hs10, hs11, hs12, hs13, hs14, hs15, hs16, hs17, hs18, hs19, hs20, hs21⟩; go_simp; try with_reducible rfl))
      try simp only [List.getElem_toArray, List.getElem_cons_zero, List.getElem_cons_succ, Act.put, List.setIfInBounds_toArray, List.set_cons_zero, List.set_cons_succ]
      first
        | (refine wpAnyH_take (i := 15) rfl (by kernel_rfl) (by kernel_rfl) (by kernel_rfl) (fun _ _ _ h => h) (Or.inr ⟨by rfl, rfl⟩) (by assumption) ?_)
        | (refine wpAnyH_take (i := 15) (v := ?v7x15) rfl (by kernel_rfl) (by kernel_rfl) (by kernel_rfl) (fun _ _ _ h => h) (Or.inl ⟨by rfl, ?hy7x15⟩) (by assumption) ?r7x15; case hy7x15 => (rintro w' ⟨hs0, hs1, hs2, hs3, hs4, hs5, hs6, hs7, hs8, hs9, hs10, hs11, hs12, hs13, hs14, hs15, hs16, hs17, hs18, hs19, hs20, hs21⟩; go_simp; try with_reducible rfl))
      try simp only [List.getElem_toArray, List.getElem_cons_zero, List.getElem_cons_succ, Act.put, List.setIfInBounds_toArray, List.set_cons_zero, List.set_cons_succ]
      first
        | (refine wpAnyH_take (i := 16) rfl (by kernel_rfl) (by kernel_rfl) (by kernel_rfl) (fun _ _ _ h => h) (Or.inr ⟨by rfl, rfl⟩) (by assumption) ?_)
        | (refine wpAnyH_take (i := 16) (v := ?v7x16) rfl (by kernel_rfl) (by kernel_rfl) (by kernel_rfl) (fun _ _ _ h => h) (Or.inl ⟨by rfl, ?hy7x16⟩) (by assumption) ?r7x16; case hy7x16 => (rintro w' ⟨hs0, hs1, hs2, hs3, hs4, hs5, hs6, hs7, hs8, hs9, hs10, hs11, hs12, hs13, hs14, hs15, hs16, hs17, hs18, hs19, hs20, hs21⟩; go_simp; try with_reducible rfl))
      try simp only [List.getElem_toArray, List.getElem_cons_zero, List.getElem_cons_succ, Act.put, List.setIfInBounds_toArray, List.set_cons_zero, List.set_cons_succ]
      first
        | (refine wpAnyH_take (i := 17) rfl (by kernel_rfl) (by kernel_rfl) (by kernel_rfl) (fun _ _ _ h => h) (Or.inr ⟨by rfl, rfl⟩) (by assumption) ?_)
        | (refine wpAnyH_take (i := 17) (v := ?v7x17) rfl (by kernel_rfl) (by kernel_rfl) (by kernel_rfl) (fun _ _ _ h => h) (Or.inl ⟨by rfl, ?hy7x17⟩) (by assumption) ?r7x17; case hy7x17 => (rintro w' ⟨hs0, hs1, hs2, hs3, hs4, hs5, hs6, hs7, hs8, hs9, hs10, hs11, hs12, hs13, hs14, hs15, hs16, hs17, hs18, hs19, hs20, hs21⟩; go_simp; try with_reducible rfl))
      try simp only [List.getElem_toArray, List.getElem_cons_zero, List.getElem_cons_succ, Act.put, List.setIfInBounds_toArray, List.set_cons_zero, List.set_cons_succ]
      first
        | (refine wpAnyH_take (i := 18) rfl (by kernel_rfl) (by kernel_rfl) (by kernel_rfl) (fun _ _ _ h => h) (Or.inr ⟨by rfl, rfl⟩) (by assumption) ?_)
        | (refine wpAnyH_take (i := 18) (v := ?v7x18) rfl (by kernel_rfl) (by kernel_rfl) (by kernel_rfl) (fun _ _ _ h => h) (Or.inl ⟨by rfl, ?hy7x18⟩) (by assumption) ?r7x18; case hy7x18 => (rintro w' ⟨hs0, hs1, hs2, hs3, hs4, hs5, hs6, hs7, hs8, hs9, hs10, hs11, hs12, hs13, hs14, hs15, hs16, hs17, hs18, hs19, hs20, hs21⟩; go_simp; try with_reducible rfl))
      try simp only [List.getElem_toArray, List.getElem_cons_zero, List.getElem_cons_succ, Act.put, List.setIfInBounds_toArray, List.set_cons_zero, List.set_cons_succ]
      first
        | (refine wpAnyH_take (i := 19) rfl (by kernel_rfl) (by kernel_rfl) (by kernel_rfl) (fun _ _ _ h => h) (Or.inr ⟨by rfl, rfl⟩) (by assumption) ?_)
        | (refine wpAnyH_take (i := 19) (v := ?v7x19) rfl (by kernel_rfl) (by kernel_rfl) (by kernel_rfl) (fun _ _ _ h => h) (Or.inl ⟨by rfl, ?hy7x19⟩) (by assumption) ?r7x19; case hy7x19 => (rintro w' ⟨hs0, hs1, hs2, hs3, hs4, hs5, hs6, hs7, hs8, hs9, hs10, hs11, hs12, hs13, hs14, hs15, hs16, hs17, hs18, hs19, hs20, hs21⟩; go_simp; try with_reducible rfl))
      try simp only [List.getElem_toArray, List.getElem_cons_zero, List.getElem_cons_succ, Act.put, List.setIfInBounds_toArray, List.set_cons_zero, List.set_cons_succ]
      first
        | (refine wpAnyH_take (i := 20) rfl (by kernel_rfl) (by kernel_rfl) (by kernel_rfl) (fun _ _ _ h => h) (Or.inr ⟨by rfl, rfl⟩) (by assumption) ?_)
        | (refine wpAnyH_take (i := 20) (v := ?v7x20) rfl (by kernel_rfl) (by kernel_rfl) (by kernel_rfl) (fun _ _ _ h => h) (Or.inl ⟨by rfl, ?hy7x20⟩) (by assumption) ?r7x20; case hy7x20 => (rintro w' ⟨hs0, hs1, hs2, hs3, hs4, hs5, hs6, hs7, hs8, hs9, hs10, hs11, hs12, hs13, hs14, hs15, hs16, hs17, hs18, hs19, hs20, hs21⟩; go_simp; try with_reducible rfl))
      try simp only [List.getElem_toArray, List.getElem_cons_zero, List.getElem_cons_succ, Act.put, List.setIfInBounds_toArray, List.set_cons_zero, List.set_cons_succ]
      first
        | (refine wpAnyH_take (i := 21) rfl (by kernel_rfl) (by kernel_rfl) (by kernel_rfl) (fun _ _ _ h => h) (Or.inr ⟨by rfl, rfl⟩) (by assumption) ?_)
        | (refine wpAnyH_take (i := 21) (v := ?v7x21) rfl (by kernel_rfl) (by kernel_rfl) (by kernel_rfl) (fun _ _ _ h => h) (Or.inl ⟨by rfl, ?hy7x21⟩) (by assumption) ?r7x21; case hy7x21 => (rintro w' ⟨hs0, hs1, hs2, hs3, hs4, hs5, hs6, hs7, hs8, hs9, hs10, hs11, hs12, hs13, hs14, hs15, hs16, hs17, hs18, hs19, hs20, hs21⟩; go_simp; try with_reducible rfl))
      try simp only [List.getElem_toArray, List.getElem_cons_zero, List.getElem_cons_succ, Act.put, List.setIfInBounds_toArray, List.set_cons_zero, List.set_cons_succ]
      first
        | (refine wpAnyH_take (i := 22) rfl (by kernel_rfl) (by kernel_rfl) (by kernel_rfl) (fun _ _ _ h => h) (Or.inr ⟨by rfl, rfl⟩) (by assumption) ?_)
        | (refine wpAnyH_take (i := 22) (v := ?v7x22) rfl (by kernel_rfl) (by kernel_rfl) (by kernel_rfl) (fun _ _ _ h => h) (Or.inl ⟨by rfl, ?hy7x22⟩) (by assumption) ?r7x22; case hy7x22 => (rintro w' ⟨hs0, hs1, hs2, hs3, hs4, hs5, hs6, hs7, hs8, hs9, hs10, hs11, hs12, hs13, hs14, hs15, hs16, hs17, hs18, hs19, hs20, hs21⟩; go_simp; try with_reducible rfl))
      try simp only [List.getElem_toArray, List.getElem_cons_zero, List.getElem_cons_succ, Act.put, List.setIfInBounds_toArray, List.set_cons_zero, List.set_cons_succ]
      first
        | (refine wpAnyH_take (i := 23) rfl (by kernel_rfl) (by kernel_rfl) (by kernel_rfl) (fun _ _ _ h => h) (Or.inr ⟨by rfl, rfl⟩) (by assumption) ?_)
        | (refine wpAnyH_take (i := 23) (v := ?v7x23) rfl (by kernel_rfl) (by kernel_rfl) (by kernel_rfl) (fun _ _ _ h => h) (Or.inl ⟨by rfl, ?hy7x23⟩) (by assumption) ?r7x23; case hy7x23 => (rintro w' ⟨hs0, hs1, hs2, hs3, hs4, hs5, hs6, hs7, hs8, hs9, hs10, hs11, hs12, hs13, hs14, hs15, hs16, hs17, hs18, hs19, hs20, hs21⟩; go_simp; try with_reducible rfl))
      try simp only [List.getElem_toArray, List.getElem_cons_zero, List.getElem_cons_succ, Act.put, List.setIfInBounds_toArray, List.set_cons_zero, List.set_cons_succ]
      first
        | (refine wpAnyH_take (i := 24) rfl (by kernel_rfl) (by kernel_rfl) (by kernel_rfl) (fun _ _ _ h => h) (Or.inr ⟨by rfl, rfl⟩) (by assumption) ?_)
        | (refine wpAnyH_take (i := 24) (v := ?v7x24) rfl (by kernel_rfl) (by kernel_rfl) (by kernel_rfl) (fun _ _ _ h => h) (Or.inl ⟨by rfl, ?hy7x24⟩) (by assumption) ?r7x24; case hy7x24 => (rintro w' ⟨hs0, hs1, hs2, hs3, hs4, hs5, hs6, hs7, hs8, hs9, hs10, hs11, hs12, hs13, hs14, hs15, hs16, hs17, hs18, hs19, hs20, hs21⟩; go_simp; try with_reducible rfl))
      try simp only [List.getElem_toArray, List.getElem_cons_zero, List.getElem_cons_succ, Act.put, List.setIfInBounds_toArray, List.set_cons_zero, List.set_cons_succ]
      first
        | (refine wpAnyH_take (i := 25) rfl (by kernel_rfl) (by kernel_rfl) (by kernel_rfl) (fun _ _ _ h => h) (Or.inr ⟨by rfl, rfl⟩) (by assumption) ?_)
        | (refine wpAnyH_take (i := 25) (v := ?v7x25) rfl (by kernel_rfl) (by kernel_rfl) (by kernel_rfl) (fun _ _ _ h => h) (Or.inl ⟨by rfl, ?hy7x25⟩) (by assumption) ?r7x25; case hy7x25 => (rintro w' ⟨hs0, hs1, hs2, hs3, hs4, hs5, hs6, hs7, hs8, hs9, hs10, hs11, hs12, hs13, hs14, hs15, hs16, hs17, hs18, hs19, hs20, hs21⟩; go_simp; try with_reducible rfl))
      try simp only [List.getElem_toArray, List.getElem_cons_zero, List.getElem_cons_succ, Act.put, List.setIfInBounds_toArray, List.set_cons_zero, List.set_cons_succ]
      first
        | (refine wpAnyH_take (i := 26) rfl (by kernel_rfl) (by kernel_rfl) (by kernel_rfl) (fun _ _ _ h => h) (Or.inr ⟨by rfl, rfl⟩) (by assumption) ?_)
        | (refine wpAnyH_take (i := 26) (v := ?v7x26) rfl (by kernel_rfl) (by kernel_rfl) (by kernel_rfl) (fun _ _ _ h => h) (Or.inl ⟨by rfl, ?hy7x26⟩) (by assumption) ?r7x26; case hy7x26 => (rintro w' ⟨hs0, hs1, hs2, hs3, hs4, hs5, hs6, hs7, hs8, hs9, hs10, hs11, hs12, hs13, hs14, hs15, hs16, hs17, hs18, hs19, hs20, hs21⟩; go_simp; try with_reducible rfl))
      try simp only [List.getElem_toArray, List.getElem_cons_zero, List.getElem_cons_succ, Act.put, List.setIfInBounds_toArray, List.set_cons_zero, List.set_cons_succ]
      first
        | (refine wpAnyH_take (i := 27) rfl (by kernel_rfl) (by kernel_rfl) (by kernel_rfl) (fun _ _ _ h => h) (Or.inr ⟨by rfl, rfl⟩) (by assumption) ?_)
        | (refine wpAnyH_take (i := 27) (v := ?v7x27) rfl (by kernel_rfl) (by kernel_rfl) (by kernel_rfl) (fun _ _ _ h => h) (Or.inl ⟨by rfl, ?hy7x27⟩) (by assumption) ?r7x27; case hy7x27 => (rintro w' ⟨hs0, hs1, hs2, hs3, hs4, hs5, hs6, hs7, hs8, hs9, hs10, hs11, hs12, hs13, hs14, hs15, hs16, hs17, hs18, hs19, hs20, hs21⟩; go_simp; try with_reducible rfl))
      try simp only [List.getElem_toArray, List.getElem_cons_zero, List.getElem_cons_succ, Act.put, List.setIfInBounds_toArray, List.set_cons_zero, List.set_cons_succ]
      first
        | (refine wpAnyH_take (i := 28) rfl (by kernel_rfl) (by kernel_rfl) (by kernel_rfl) (fun _ _ _ h => h) (Or.inr ⟨by rfl, rfl⟩) (by assumption) ?_)
        | (refine wpAnyH_take (i := 28) (v := ?v7x28) rfl (by kernel_rfl) (by kernel_rfl) (by kernel_rfl) (fun _ _ _ h => h) (Or.inl ⟨by rfl, ?hy7x28⟩) (by assumption) ?r7x28; case hy7x28 => (rintro w' ⟨hs0, hs1, hs2, hs3, hs4, hs5, hs6, hs7, hs8, hs9, hs10, hs11, hs12, hs13, hs14, hs15, hs16, hs17, hs18, hs19, hs20, hs21⟩; go_simp; try with_reducible rfl))
      try simp only [List.getElem_toArray, List.getElem_cons_zero, List.getElem_cons_succ, Act.put, List.setIfInBounds_toArray, List.set_cons_zero, List.set_cons_succ]
      first
        | (refine wpAnyH_take (i := 29) rfl (by kernel_rfl) (by kernel_rfl) (by kernel_rfl) (fun _ _ _ h => h) (Or.inr ⟨by rfl, rfl⟩) (by assumption) ?_)
        | (refine wpAnyH_take (i := 29) (v := ?v7x29) rfl (by kernel_rfl) (by kernel_rfl) (by kernel_rfl) (fun _ _ _ h => h) (Or.inl ⟨by rfl, ?hy7x29⟩) (by assumption) ?r7x29; case hy7x29 => (rintro w' ⟨hs0, hs1, hs2, hs3, hs4, hs5, hs6, hs7, hs8, hs9, hs10, hs11, hs12, hs13, hs14, hs15, hs16, hs17, hs18, hs19, hs20, hs21⟩; go_simp; try with_reducible rfl))
      try simp only [List.getElem_toArray, List.getElem_cons_zero, List.getElem_cons_succ, Act.put, List.setIfInBounds_toArray, List.set_cons_zero, List.set_cons_succ]
      first
        | (refine wpAnyH_take (i := 30) rfl (by kernel_rfl) (by kernel_rfl) (by kernel_rfl) (fun _ _ _ h => h) (Or.inr ⟨by rfl, rfl⟩) (by assumption) ?_)
        | (refine wpAnyH_take (i := 30) (v := ?v7x30) rfl (by kernel_rfl) (by kernel_rfl) (by kernel_rfl) (fun _ _ _ h => h) (Or.inl ⟨by rfl, ?hy7x30⟩) (by assumption) ?r7x30; case hy7x30 => (rintro w' ⟨hs0, hs1, hs2, hs3, hs4, hs5, hs6, hs7, hs8, hs9, hs10, hs11, hs12, hs13, hs14, hs15, hs16, hs17, hs18, hs19, hs20, hs21⟩; go_simp; try with_reducible rfl))
      try simp only [List.getElem_toArray, List.getElem_cons_zero, List.getElem_cons_succ, Act.put, List.setIfInBounds_toArray, List.set_cons_zero, List.set_cons_succ]
      first
        | (refine wpAnyH_take (i := 31) rfl (by kernel_rfl) (by kernel_rfl) (by kernel_rfl) (fun _ _ _ h => h) (Or.inr ⟨by rfl, rfl⟩) (by assumption) ?_)
        | (refine wpAnyH_take (i := 31) (v := ?v7x31) rfl (by kernel_rfl) (by kernel_rfl) (by kernel_rfl) (fun _ _ _ h => h) (Or.inl ⟨by rfl, ?hy7x31⟩) (by assumption) ?r7x31; case hy7x31 => (rintro w' ⟨hs0, hs1, hs2, hs3, hs4, hs5, hs6, hs7, hs8, hs9, hs10, hs11, hs12, hs13, hs14, hs15, hs16, hs17, hs18, hs19, hs20, hs21⟩; go_simp; try with_reducible rfl))
      try simp only [List.getElem_toArray, List.getElem_cons_zero, List.getElem_cons_succ, Act.put, List.setIfInBounds_toArray, List.set_cons_zero, List.set_cons_succ]
      first
        | (refine wpAnyH_take (i := 32) rfl (by kernel_rfl) (by kernel_rfl) (by kernel_rfl) (fun _ _ _ h => h) (Or.inr ⟨by rfl, rfl⟩) (by assumption) ?_)
        | (refine wpAnyH_take (i := 32) (v := ?v7x32) rfl (by kernel_rfl) (by kernel_rfl) (by kernel_rfl) (fun _ _ _ h => h) (Or.inl ⟨by rfl, ?hy7x32⟩) (by assumption) ?r7x32; case hy7x32 => (rintro w' ⟨hs0, hs1, hs2, hs3, hs4, hs5, hs6, hs7, hs8, hs9, hs10, hs11, hs12, hs13, hs14, hs15, hs16, hs17, hs18, hs19, hs20, hs21⟩; go_simp; try with_reducible rfl))
      try simp only [List.getElem_toArray, List.getElem_cons_zero, List.getElem_cons_succ, Act.put, List.setIfInBounds_toArray, List.set_cons_zero, List.set_cons_succ]
      first
        | (refine wpAnyH_take (i := 33) rfl (by kernel_rfl) (by kernel_rfl) (by kernel_rfl) (fun _ _ _ h => h) (Or.inr ⟨by rfl, rfl⟩) (by assumption) ?_)
        | (refine wpAnyH_take (i := 33) (v := ?v7x33) rfl (by kernel_rfl) (by kernel_rfl) (by kernel_rfl) (fun _ _ _ h => h) (Or.inl ⟨by rfl, ?hy7x33⟩) (by assumption) ?r7x33; case hy7x33 => (rintro w' ⟨hs0, hs1, hs2, hs3, hs4, hs5, hs6, hs7, hs8, hs9, hs10, hs11, hs12, hs13, hs14, hs15, hs16, hs17, hs18, hs19, hs20, hs21⟩; go_simp; try with_reducible rfl))
      try simp only [List.getElem_toArray, List.getElem_cons_zero, List.getElem_cons_succ, Act.put, List.setIfInBounds_toArray, List.set_cons_zero, List.set_cons_succ]
      first
        | (refine wpAnyH_take (i := 34) rfl (by kernel_rfl) (by kernel_rfl) (by kernel_rfl) (fun _ _ _ h => h) (Or.inr ⟨by rfl, rfl⟩) (by assumption) ?_)
        | (refine wpAnyH_take (i := 34) (v := ?v7x34) rfl (by kernel_rfl) (by kernel_rfl) (by kernel_rfl) (fun _ _ _ h => h) (Or.inl ⟨by rfl, ?hy7x34⟩) (by assumption) ?r7x34; case hy7x34 => (rintro w' ⟨hs0, hs1, hs2, hs3, hs4, hs5, hs6, hs7, hs8, hs9, hs10, hs11, hs12, hs13, hs14, hs15, hs16, hs17, hs18, hs19, hs20, hs21⟩; go_simp; try with_reducible rfl))
      try simp only [List.getElem_toArray, List.getElem_cons_zero, List.getElem_cons_succ, Act.put, List.setIfInBounds_toArray, List.set_cons_zero, List.set_cons_succ]
      refine wpAnyH_ready (rs := [35]) (by kernel_rfl) (by simp) ?_
      refine AllReadyH.cons (o := _) rfl (fun K hK => ?_) AllReadyH.nil
      go_simp
      go_at_call 7; (with_reducible refine (awake15C _ (hT1.below hB1)).mono ?_); rintro e w3 ⟨rfl, hx⟩; have hB1 := hB1.trans (hx.mono hB1.size); clear hx
      dsimp only
      refine hK.out _ _ (hS0 _ hB1) (fun hHeld => ?_)
      clear hK K
      try simp only [List.getElem_toArray, List.getElem_cons_zero, List.getElem_cons_succ, Act.put, List.setIfInBounds_toArray, List.set_cons_zero, List.set_cons_succ]
      first
        | (refine wpAnyH_take (i := 36) rfl (by kernel_rfl) (by kernel_rfl) (by kernel_rfl) (fun _ _ _ h => h) (Or.inr ⟨by rfl, rfl⟩) (by assumption) ?_)
        | (refine wpAnyH_take (i := 36) (v := ?v7x36) rfl (by kernel_rfl) (by kernel_rfl) (by kernel_rfl) (fun _ _ _ h => h) (Or.inl ⟨by rfl, ?hy7x36⟩) (by assumption) ?r7x36; case hy7x36 => (rintro w' ⟨hs0, hs1, hs2, hs3, hs4, hs5, hs6, hs7, hs8, hs9, hs10, hs11, hs12, hs13, hs14, hs15, hs16, hs17, hs18, hs19, hs20, hs21⟩; go_simp; try with_reducible rfl))
      try simp only [List.getElem_toArray, List.getElem_cons_zero, List.getElem_cons_succ, Act.put, List.setIfInBounds_toArray, List.set_cons_zero, List.set_cons_succ]
      first
        | (refine wpAnyH_take (i := 37) rfl (by kernel_rfl) (by kernel_rfl) (by kernel_rfl) (fun _ _ _ h => h) (Or.inr ⟨by rfl, rfl⟩) (by assumption) ?_)
        | (refine wpAnyH_take (i := 37) (v := ?v7x37) rfl (by kernel_rfl) (by kernel_rfl) (by kernel_rfl) (fun _ _ _ h => h) (Or.inl ⟨by rfl, ?hy7x37⟩) (by assumption) ?r7x37; case hy7x37 => (rintro w' ⟨hs0, hs1, hs2, hs3, hs4, hs5, hs6, hs7, hs8, hs9, hs10, hs11, hs12, hs13, hs14, hs15, hs16, hs17, hs18, hs19, hs20, hs21⟩; go_simp; try with_reducible rfl))
      try simp only [List.getElem_toArray, List.getElem_cons_zero, List.getElem_cons_succ, Act.put, List.setIfInBounds_toArray, List.set_cons_zero, List.set_cons_succ]
      refine wpAnyH_done (by kernel_rfl) ?_ _
      go_wp2
      go_ret
      exact ⟨rfl, hbW.trans (hB1.mono hbW.size)⟩
  | false =>
    simp only [hs] at hE
    obtain ⟨t1, t2⟩ := htot hs
    simp only [t1] at HB2
    simp only [t2] at HK2
    clear htot hA hK t1 t2
    have f1 : (A != A) = false := by simp
    have f2 : (K != K) = false := by simp
    have f3 : (A != !A) = true := by cases A <;> rfl
    have f4 : (K != !K) = true := by cases K <;> rfl
    go_enter Tryd.func3, Tryd.ntmps3
    go_wp2_with (go_at_call 6; (with_reducible refine HL.mono ?_); rintro e w1 ⟨rfl, rfl⟩)
    refine wp_any (fun w1 => Below w.heap.size w w1 ∧ MTb w1 ∧ ∀ w', Below w1.heap.size w1 w' → w'.cell? ⟨w.heap.size, 0, none⟩ = some (.string (str x.name)) ∧ w'.cell? ⟨w.heap.size, 1, none⟩ = some (.string (str x.dom)) ∧ w'.cell? ⟨w.heap.size, 2, none⟩ = some (.string (str x.path)) ∧ w'.cell? ⟨w.heap.size, 3, none⟩ = some (.string (str x.val)) ∧ w'.cell? ⟨w.heap.size, 4, none⟩ = some (.bool x.host) ∧ w'.cell? ⟨w.heap.size, 5, none⟩ = some (.bool x.sec) ∧ w'.cell? ⟨w.heap.size, 6, none⟩ = some (.bool x.http) ∧ w'.cell? ⟨w.heap.size, 7, none⟩ = some (.bool x.pers) ∧ w'.cell? ⟨w.heap.size, 8, none⟩ = some (.int .i64 x.exp) ∧ w'.cell? ⟨w.heap.size, 9, none⟩ = some (.int .i64 x.made) ∧ w'.cell? ⟨w.heap.size, 10, none⟩ = some (.int .i64 x.used) ∧ w'.cell? ⟨w.heap.size + 1, 0, none⟩ = some (.string (str y.name)) ∧ w'.cell? ⟨w.heap.size + 1, 1, none⟩ = some (.string (str y.dom)) ∧ w'.cell? ⟨w.heap.size + 1, 2, none⟩ = some (.string (str y.path)) ∧ w'.cell? ⟨w.heap.size + 1, 3, none⟩ = some (.string (str y.val)) ∧ w'.cell? ⟨w.heap.size + 1, 4, none⟩ = some (.bool y.host) ∧ w'.cell? ⟨w.heap.size + 1, 5, none⟩ = some (.bool y.sec) ∧ w'.cell? ⟨w.heap.size + 1, 6, none⟩ = some (.bool y.http) ∧ w'.cell? ⟨w.heap.size + 1, 7, none⟩ = some (.bool y.pers) ∧ w'.cell? ⟨w.heap.size + 1, 8, none⟩ = some (.int .i64 y.exp) ∧ w'.cell? ⟨w.heap.size + 1, 9, none⟩ = some (.int .i64 y.made) ∧ w'.cell? ⟨w.heap.size + 1, 10, none⟩ = some (.int .i64 y.used)) ⟨hbW, hTW, hS1⟩ ?_
    clear hbW hTW hS1 o1 o2
    rintro w1 ⟨hbW, hT1, hS0⟩
    have hB1 : Below w1.heap.size w1 w1.drew := (Below.refl _ w1).drew
    go_region_held3 (fun w' => w'.cell? ⟨w.heap.size, 0, none⟩ = some (.string (str x.name)) ∧ w'.cell? ⟨w.heap.size, 1, none⟩ = some (.string (str x.dom)) ∧ w'.cell? ⟨w.heap.size, 2, none⟩ = some (.string (str x.path)) ∧ w'.cell? ⟨w.heap.size, 3, none⟩ = some (.string (str x.val)) ∧ w'.cell? ⟨w.heap.size, 4, none⟩ = some (.bool x.host) ∧ w'.cell? ⟨w.heap.size, 5, none⟩ = some (.bool x.sec) ∧ w'.cell? ⟨w.heap.size, 6, none⟩ = some (.bool x.http) ∧ w'.cell? ⟨w.heap.size, 7, none⟩ = some (.bool x.pers) ∧ w'.cell? ⟨w.heap.size, 8, none⟩ = some (.int .i64 x.exp) ∧ w'.cell? ⟨w.heap.size, 9, none⟩ = some (.int .i64 x.made) ∧ w'.cell? ⟨w.heap.size, 10, none⟩ = some (.int .i64 x.used) ∧ w'.cell? ⟨w.heap.size + 1, 0, none⟩ = some (.string (str y.name)) ∧ w'.cell? ⟨w.heap.size + 1, 1, none⟩ = some (.string (str y.dom)) ∧ w'.cell? ⟨w.heap.size + 1, 2, none⟩ = some (.string (str y.path)) ∧ w'.cell? ⟨w.heap.size + 1, 3, none⟩ = some (.string (str y.val)) ∧ w'.cell? ⟨w.heap.size + 1, 4, none⟩ = some (.bool y.host) ∧ w'.cell? ⟨w.heap.size + 1, 5, none⟩ = some (.bool y.sec) ∧ w'.cell? ⟨w.heap.size + 1, 6, none⟩ = some (.bool y.http) ∧ w'.cell? ⟨w.heap.size + 1, 7, none⟩ = some (.bool y.pers) ∧ w'.cell? ⟨w.heap.size + 1, 8, none⟩ = some (.int .i64 y.exp) ∧ w'.cell? ⟨w.heap.size + 1, 9, none⟩ = some (.int .i64 y.made) ∧ w'.cell? ⟨w.heap.size + 1, 10, none⟩ = some (.int .i64 y.used))
      (first | exact hS0 _ hB1)
      (first
        | (go_at_call 8; (with_reducible refine (HB1 _ (hT1.below hB1)).mono ?_); rintro e w3 ⟨rfl, hx⟩; have hB1 := hB1.trans (hx.mono hB1.size); clear hx)
        | (go_at_call 9; (with_reducible refine (HR1 _).mono ?_); rintro e w3 ⟨rfl, hx⟩; have hB1 := hB1.trans (hx.mono hB1.size); clear hx)
        | (go_at_call 10; (with_reducible refine (HK1 _ (hT1.below hB1)).mono ?_); rintro e w3 ⟨rfl, hx⟩; have hB1 := hB1.trans (hx.mono hB1.size); clear hx)
        | (go_at_call 11; (with_reducible refine (HQ1 _).mono ?_); rintro e w3 ⟨rfl, hx⟩; have hB1 := hB1.trans (hx.mono hB1.size); clear hx))
    all_goals
      go_wp2_with fail
      refine wp_any (fun w1 => Below w.heap.size w w1 ∧ MTb w1 ∧ ∀ w', Below w1.heap.size w1 w' → w'.cell? ⟨w.heap.size, 0, none⟩ = some (.string (str x.name)) ∧ w'.cell? ⟨w.heap.size, 1, none⟩ = some (.string (str x.dom)) ∧ w'.cell? ⟨w.heap.size, 2, none⟩ = some (.string (str x.path)) ∧ w'.cell? ⟨w.heap.size, 3, none⟩ = some (.string (str x.val)) ∧ w'.cell? ⟨w.heap.size, 4, none⟩ = some (.bool x.host) ∧ w'.cell? ⟨w.heap.size, 5, none⟩ = some (.bool x.sec) ∧ w'.cell? ⟨w.heap.size, 6, none⟩ = some (.bool x.http) ∧ w'.cell? ⟨w.heap.size, 7, none⟩ = some (.bool x.pers) ∧ w'.cell? ⟨w.heap.size, 8, none⟩ = some (.int .i64 x.exp) ∧ w'.cell? ⟨w.heap.size, 9, none⟩ = some (.int .i64 x.made) ∧ w'.cell? ⟨w.heap.size, 10, none⟩ = some (.int .i64 x.used) ∧ w'.cell? ⟨w.heap.size + 1, 0, none⟩ = some (.string (str y.name)) ∧ w'.cell? ⟨w.heap.size + 1, 1, none⟩ = some (.string (str y.dom)) ∧ w'.cell? ⟨w.heap.size + 1, 2, none⟩ = some (.string (str y.path)) ∧ w'.cell? ⟨w.heap.size + 1, 3, none⟩ = some (.string (str y.val)) ∧ w'.cell? ⟨w.heap.size + 1, 4, none⟩ = some (.bool y.host) ∧ w'.cell? ⟨w.heap.size + 1, 5, none⟩ = some (.bool y.sec) ∧ w'.cell? ⟨w.heap.size + 1, 6, none⟩ = some (.bool y.http) ∧ w'.cell? ⟨w.heap.size + 1, 7, none⟩ = some (.bool y.pers) ∧ w'.cell? ⟨w.heap.size + 1, 8, none⟩ = some (.int .i64 y.exp) ∧ w'.cell? ⟨w.heap.size + 1, 9, none⟩ = some (.int .i64 y.made) ∧ w'.cell? ⟨w.heap.size + 1, 10, none⟩ = some (.int .i64 y.used)) ⟨hbW.trans (hB1.mono hbW.size), hT1.below hB1, fun w' hw => hS0 w' (hB1.trans (hw.mono hB1.size))⟩ ?_
      clear hbW hT1 hS0 hB1
      rintro w2 ⟨hbW, hT1, hS0⟩
      have hB1 : Below w2.heap.size w2 w2.drew := (Below.refl _ w2).drew
      go_region_held3 (fun w' => w'.cell? ⟨w.heap.size, 0, none⟩ = some (.string (str x.name)) ∧ w'.cell? ⟨w.heap.size, 1, none⟩ = some (.string (str x.dom)) ∧ w'.cell? ⟨w.heap.size, 2, none⟩ = some (.string (str x.path)) ∧ w'.cell? ⟨w.heap.size, 3, none⟩ = some (.string (str x.val)) ∧ w'.cell? ⟨w.heap.size, 4, none⟩ = some (.bool x.host) ∧ w'.cell? ⟨w.heap.size, 5, none⟩ = some (.bool x.sec) ∧ w'.cell? ⟨w.heap.size, 6, none⟩ = some (.bool x.http) ∧ w'.cell? ⟨w.heap.size, 7, none⟩ = some (.bool x.pers) ∧ w'.cell? ⟨w.heap.size, 8, none⟩ = some (.int .i64 x.exp) ∧ w'.cell? ⟨w.heap.size, 9, none⟩ = some (.int .i64 x.made) ∧ w'.cell? ⟨w.heap.size, 10, none⟩ = some (.int .i64 x.used) ∧ w'.cell? ⟨w.heap.size + 1, 0, none⟩ = some (.string (str y.name)) ∧ w'.cell? ⟨w.heap.size + 1, 1, none⟩ = some (.string (str y.dom)) ∧ w'.cell? ⟨w.heap.size + 1, 2, none⟩ = some (.string (str y.path)) ∧ w'.cell? ⟨w.heap.size + 1, 3, none⟩ = some (.string (str y.val)) ∧ w'.cell? ⟨w.heap.size + 1, 4, none⟩ = some (.bool y.host) ∧ w'.cell? ⟨w.heap.size + 1, 5, none⟩ = some (.bool y.sec) ∧ w'.cell? ⟨w.heap.size + 1, 6, none⟩ = some (.bool y.http) ∧ w'.cell? ⟨w.heap.size + 1, 7, none⟩ = some (.bool y.pers) ∧ w'.cell? ⟨w.heap.size + 1, 8, none⟩ = some (.int .i64 y.exp) ∧ w'.cell? ⟨w.heap.size + 1, 9, none⟩ = some (.int .i64 y.made) ∧ w'.cell? ⟨w.heap.size + 1, 10, none⟩ = some (.int .i64 y.used))
        (first | exact hS0 _ hB1)
        (first
          | (go_at_call 10; (with_reducible refine (HK1 _ (hT1.below hB1)).mono ?_); rintro e w3 ⟨rfl, hx⟩; have hB1 := hB1.trans (hx.mono hB1.size); clear hx)
          | (go_at_call 10; (with_reducible refine (HK2 _ (hT1.below hB1)).mono ?_); rintro e w3 ⟨rfl, hx⟩; have hB1 := hB1.trans (hx.mono hB1.size); clear hx)
          | (go_at_call 8; (with_reducible refine (HB1 _ (hT1.below hB1)).mono ?_); rintro e w3 ⟨rfl, hx⟩; have hB1 := hB1.trans (hx.mono hB1.size); clear hx)
          | (go_at_call 8; (with_reducible refine (HB2 _ (hT1.below hB1)).mono ?_); rintro e w3 ⟨rfl, hx⟩; have hB1 := hB1.trans (hx.mono hB1.size); clear hx)
          | (go_at_call 7; (with_reducible refine (awake15C _ (hT1.below hB1)).mono ?_); rintro e w3 ⟨rfl, hx⟩; have hB1 := hB1.trans (hx.mono hB1.size); clear hx))
      all_goals
        go_wp2
        go_ret
        exact ⟨rfl, hbW.trans (hB1.mono hbW.size)⟩
end Go.Proofs.YtjocnhkapiiblaaDoor
