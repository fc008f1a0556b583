/- Contracts and plain words that the laws' proofs stand on. -/
import Derived.Test.YtaodjnkjjmhecaaGreatDoorShort
import Derived.Test.YtaodjnkjjmhecaaGreatDoorLibAH
import Derived.Test.YtaodjnkjjmhecaaGreatDoorLibAI
import Derived.Test.YtaodjnkjjmhecaaGreatDoorLibAW
import Derived.Test.YtaodjnkjjmhecaaGreatDoorLibBN
namespace Go.Proofs.YtaodjnkjjmhecaaGreatDoor
open Go.RowKit
set_option linter.unusedVariables false
set_option linter.unusedSimpArgs false
def winE (o : Option EvR) : EvR := o.getD ⟨EventN.none, none, 0⟩
theorem winE_enc (o : Option EvR) : encO o = encE (winE o) := by cases o <;> rfl
theorem winE_e (o : Option EvR) : (winE o).e = (o.map (·.e)).getD EventN.none := by cases o <;> rfl
theorem winE_row {w : World} {m : MapR} {x : ItemL} (hO : OversAt w m.kept) : RowOf encD 3 w (winE (winnerR m x)).a (winE (winnerR m x)).e.over.length (winE (winnerR m x)).c (winE (winnerR m x)).e.over := by
  cases h : winnerR m x with
  | none => exact RowOf.none encD 3 w
  | some r => exact hO r (winner_in h)
theorem same_self (e : EventN) : sameE e e = true := (sameE_iff).2 rfl
set_option maxHeartbeats 8000000 in
set_option maxRecDepth 100000 in
theorem keysW (a : Option Addr) (n c : Nat) (P : List EvR) (x : ItemL) (d : DotN) (w : World) (hL : RowOf encE 19 w a n c P) (hO : OversAt w P) (hT : ∀ r ∈ P, r.e.item.name.length ≤ maxLen ∧ r.e.item.dom.length ≤ maxLen ∧ r.e.item.path.length ≤ maxLen ∧ r.e.item.val.length ≤ maxLen) (hx9 : x.name.length ≤ maxLen ∧ x.dom.length ≤ maxLen ∧ x.path.length ≤ maxLen) (hkx : fitK (kOf x)) (hfd : FitD d) (hTb : OTb w) :
    Calls Tryz.prog 4 #[.slice a n c, .agg #[.string (str x.name), .string (str x.dom), .string (str x.path)], .agg #[.int .i64 d.dev, .int .i64 d.inc, .int .i64 d.seq]] w fun en w' => en = .returned (.bool true) ∧ Below w.heap.size w w' := by
  have hcm := hL.capm; have hcl := hL.cle; have hlq := hL.leq
  unfold maxLen at hcm
  have HN := fun v => mNewC v
  obtain ⟨oK, oD, b0⟩ := objsE2 w #[.string (str x.name), .string (str x.dom), .string (str x.path)] #[.int .i64 d.dev, .int .i64 d.inc, .int .i64 d.seq] 39 35
  generalize hw0 : (w.alloc (.cells #[.string (str x.name), .string (str x.dom), .string (str x.path)] 39)).alloc (.cells #[.int .i64 d.dev, .int .i64 d.inc, .int .i64 d.seq] 35) = w0 at *
  have lK := oK.lt; have lD := oD.lt
  have HT0 := hTb.below b0
  have HAW := fun v (hv : Below w0.heap.size w0 v) => awake21C v (HT0.below hv)
  have hKC : ∀ v, Below w0.heap.size w0 v → v.cell? ⟨w.heap.size, 0, none⟩ = some (.string (str x.name)) ∧ v.cell? ⟨w.heap.size, 1, none⟩ = some (.string (str x.dom)) ∧ v.cell? ⟨w.heap.size, 2, none⟩ = some (.string (str x.path)) := fun v hv => ⟨(oK.below hv lK).cell 0 rfl, (oK.below hv lK).cell 1 rfl, (oK.below hv lK).cell 2 rfl⟩
  have hDC : ∀ v, Below w0.heap.size w0 v → v.cell? ⟨w.heap.size + 1, 0, none⟩ = some (.int .i64 d.dev) ∧ v.cell? ⟨w.heap.size + 1, 1, none⟩ = some (.int .i64 d.inc) ∧ v.cell? ⟨w.heap.size + 1, 2, none⟩ = some (.int .i64 d.seq) := fun v hv => ⟨(oD.below hv lD).cell 0 rfl, (oD.below hv lD).cell 1 rfl, (oD.below hv lD).cell 2 rfl⟩
  have hL0 := hL.below b0
  have hO0 := hO.below b0
  have HLA := refLightAllC a n c 40 (P.map (·.e)) w0 ⟨P, rfl, hL0, hO0⟩ (fun e he => by obtain ⟨r, hr, rfl⟩ := List.mem_map.1 he; exact hT r hr)
  rw [List.length_map, hlq] at HLA
  have s0 : (str x.name).size = x.name.length := str_size _
  have s1 : (str x.dom).size = x.dom.length := str_size _
  have s2 : (str x.path).size = x.path.length := str_size _
  clear oK oD hL hO hT
  cases hla : (decide ((n : Int) ≤ 40) && (P.map (·.e)).all lightE) with
  | false =>
    rw [hla] at HLA
    clear hla
    go_enter Tryz.func4, Tryz.ntmps4
    go_wp2_with (first | (go_at_call 28; (with_reducible refine HLA.mono ?_); rintro e w1 ⟨rfl, hx1⟩; obtain ⟨k0, k1, k2⟩ := hKC _ hx1) | (go_at_call 16; (with_reducible refine (HAW _ hx1).mono ?_); rintro e w2 ⟨rfl, hx2⟩))
    go_ret
    exact ⟨rfl, belowOn (belowOn b0 hx1) hx2⟩
  | true =>
  rw [hla] at HLA
  rw [Bool.and_eq_true, decide_eq_true_eq] at hla
  obtain ⟨hn, hal⟩ := hla
  have hli : ∀ r ∈ P, lightE r.e = true := fun r hr => List.all_eq_true.1 hal _ (List.mem_map.2 ⟨r, hr, rfl⟩)
  clear hal
  by_cases g0 : (2000 : Int) < (x.name.length : Int)
  · have t0 : decide ((2000 : Int) < (x.name.length : Int)) = true := decide_eq_true g0
    clear hli
    go_enter Tryz.func4, Tryz.ntmps4
    go_wp2_with (first | (go_at_call 28; (with_reducible refine HLA.mono ?_); rintro e w1 ⟨rfl, hx1⟩; obtain ⟨k0, k1, k2⟩ := hKC _ hx1) | (go_at_call 16; (with_reducible refine (HAW _ hx1).mono ?_); rintro e w2 ⟨rfl, hx2⟩))
    go_ret
    exact ⟨rfl, belowOn (belowOn b0 hx1) hx2⟩
  have t0 : decide ((2000 : Int) < (x.name.length : Int)) = false := decide_eq_false g0
  by_cases g1 : (2000 : Int) < (x.dom.length : Int)
  · have t1 : decide ((2000 : Int) < (x.dom.length : Int)) = true := decide_eq_true g1
    clear hli
    go_enter Tryz.func4, Tryz.ntmps4
    go_wp2_with (first | (go_at_call 28; (with_reducible refine HLA.mono ?_); rintro e w1 ⟨rfl, hx1⟩; obtain ⟨k0, k1, k2⟩ := hKC _ hx1) | (go_at_call 16; (with_reducible refine (HAW _ hx1).mono ?_); rintro e w2 ⟨rfl, hx2⟩))
    go_ret
    exact ⟨rfl, belowOn (belowOn b0 hx1) hx2⟩
  have t1 : decide ((2000 : Int) < (x.dom.length : Int)) = false := decide_eq_false g1
  by_cases g2 : (2000 : Int) < (x.path.length : Int)
  · have t2 : decide ((2000 : Int) < (x.path.length : Int)) = true := decide_eq_true g2
    clear hli
    go_enter Tryz.func4, Tryz.ntmps4
    go_wp2_with (first | (go_at_call 28; (with_reducible refine HLA.mono ?_); rintro e w1 ⟨rfl, hx1⟩; obtain ⟨k0, k1, k2⟩ := hKC _ hx1) | (go_at_call 16; (with_reducible refine (HAW _ hx1).mono ?_); rintro e w2 ⟨rfl, hx2⟩))
    go_ret
    exact ⟨rfl, belowOn (belowOn b0 hx1) hx2⟩
  have t2 : decide ((2000 : Int) < (x.path.length : Int)) = false := decide_eq_false g2
  clear g0 g1 g2
  obtain ⟨Z, hZ⟩ : ∃ Z, (#[.int .i64 0, .int .i64 0, .int .i64 0, .int .i64 0, .int .i64 0, .int .i64 0, .int .i64 0, .string ⟨#[]⟩, .string ⟨#[]⟩, .string ⟨#[]⟩, .string ⟨#[]⟩, .bool false, .bool false, .bool false, .bool false, .int .i64 0, .int .i64 0, .int .i64 0, .slice none 0 0] : Array Value) = Z := ⟨_, rfl⟩
  have zZ : Z.size = 19 := by rw [← hZ]; rfl
  go_enter Tryz.func4, Tryz.ntmps4
  go_wp2_with (first
    | (go_at_call 28; (with_reducible refine HLA.mono ?_); rintro e w1 ⟨rfl, hx1⟩; obtain ⟨k0, k1, k2⟩ := hKC _ hx1)
    | (go_at_call 17; (with_reducible refine (HN _).mono ?_); rintro e w2 ⟨p, F, R, rfl, hm2, hF2, hx2⟩; have hS0 := StOm.new hm2 (fun k hk => Nat.le_trans hx1.size (hF2 k hk)) (hx1.trans (hx2.mono hx1.size))))
  clear hm2 hF2 hx2 hx1 HLA HN k0 k1 k2 t0 t1 t2 s0 s1 s2
  go_loopw [8] (fun i wr => ∃ k : Nat, k ≤ n ∧ i = .int .i64 (k : Int) ∧ StOm w0 p (runM MapN.none ((P.take k).map (·.e))) wr) (fun i _ => n - (intOf i).toNat)
  case atStart => exact ⟨0, Nat.zero_le _, rfl, hS0⟩
  case round =>
    clear hS0
    obtain ⟨k, hk, rfl, hS⟩ := hrel
    by_cases hlt : k < n
    · have hlt' : (k : Int) < (n : Int) := by omega
      have i1 : (0 : Int) ≤ (k : Int) := by omega
      obtain ⟨r, g1, f1, A, hk1, rfl, hA, zA, lA, cA0, kA⟩ := evr_at hL0 k hlt
      have cA := kA wr hS.hb
      have hmem := List.mem_of_getElem? hk1
      have HAp := stOApply r A hA hS (hO0 r hmem) (hli r hmem) HT0 (take_dead hli (by omega) k)
      rw [← run_snoc MapN.none hk1] at HAp
      clear cA0 kA hA lA hk1 hZ
      go_wp2_with (first | (refine wpList_loadRow rfl 43 _ rfl g1 (f1 + k * 19) 19 A rfl cA Tryz.isAgg43 Tryz.sizeOf43 zA ?_) | (go_at_call 19; (with_reducible refine HAp.mono ?_); rintro e w4 ⟨rfl, hS4⟩))
      go_roundw
      case rel => exact ⟨k + 1, by omega, by go_num, hS4⟩
      case measure => simp [intOf]; omega
    · obtain rfl : n = k := by omega
      obtain ⟨wo, hwo⟩ : ∃ wo, wo = wr := ⟨wr, rfl⟩
      subst hwo
      rw [List.take_of_length_le (by omega), show runM MapN.none (P.map (·.e)) = foldM (P.map (·.e)) from rfl, ← fold_map] at hS
      have HFO := refFoldC a n c P wo (hL0.below hS.hb) (hO0.below hS.hb) hli (by omega)
      have hfew : (foldR P).kept.length ≤ n := by
        have h1 := run_kept_le (P.map (·.e)) MapN.none
        rw [show runM MapN.none (P.map (·.e)) = foldM (P.map (·.e)) from rfl, ← fold_map, show (foldR P).plain.kept = (foldR P).kept.map (·.e) from rfl, List.length_map, List.length_map, hlq, show MapN.none.kept.length = 0 from rfl] at h1
        omega
      have hOW : ∀ v, Below w0.heap.size w0 v → OversAt v (foldR P).kept := fun v hb r hr => (hO0.below hb) r (fold_in r hr)
      generalize foldR P = W at *
      obtain ⟨F, R, hm, hF⟩ := hS.ex
      have hb := hS.hb
      have hmv := fun v (hv : Below wo.heap.size wo v) => hm.below hv
      clear hlt hk hS hL0 hO0 hli hm
      obtain ⟨o, ho⟩ : ∃ o, winnerR W x = o := ⟨_, rfl⟩
      have hwm : winnerM W.plain x = o.map (·.e) := by rw [← ho]; exact (winner_map W x).symm
      have HWi := fun v hv => mWinnerC p F R W.plain x v (hmv v hv) hkx
      unfold GivesW at HWi
      rw [hwm, ← winE_e, show (o.map (·.e)).isSome = o.isSome from by cases o <;> rfl] at HWi
      have hwr := fun v (hv : Below w0.heap.size w0 v) => winE_row (x := x) (hOW v hv)
      rw [ho] at hwr
      obtain ⟨A2, hA2⟩ : ∃ A2, (encO o).toArray = A2 := ⟨_, rfl⟩
      have z2 : A2.size = 19 := by rw [← hA2]; exact encO_size o
      have w2' : A2.all (·.oneCell') = true := by rw [← hA2]; exact encO_one o
      have hA2' : (encE (winE o)).toArray = A2 := by rw [← winE_enc]; exact hA2
      obtain ⟨bW, hbW⟩ : ∃ b, o.isSome = b := ⟨_, rfl⟩
      rw [hbW] at HWi
      obtain ⟨k0, k1, k2⟩ := hKC _ hb
      go_wp2_with (first
        | (go_at_call 29; (with_reducible refine HFO.mono ?_); rintro e w6 ⟨ac, nc, cc, ak, nk, ck, ad, nd, cd, rfl, hW, hi6, hx6⟩; have hnk : nk ≤ 100000 := (by have := hW.kept.leq; omega); have o6 := ObjAt.new w6 #[.slice ac nc cc, .slice ak nk ck, .slice ad nd cd] 31; have b6 := below_alloc w6 (.cells #[.slice ac nc cc, .slice ak nk ck, .slice ad nd cd] 31); have hW6 := hW.below b6; have hX6 := hx6.trans (b6.mono hx6.size); obtain ⟨v6, hv6⟩ : ∃ v6, w6.alloc (.cells #[.slice ac nc cc, .slice ak nk ck, .slice ad nd cd] 31) = v6 := ⟨_, rfl⟩; rw [hv6] at o6 b6 hW6 hX6; obtain ⟨k0, k1, k2⟩ := hKC _ (hb.trans (hX6.mono hb.size)))
        | (refine wpList_storeAll rfl 43 _ _ rfl Z A1 19 rfl rfl (by kernel_rfl) zZ z1 w1' ?_)
        | (refine wpList_storeAll rfl 43 _ _ rfl Z A2 19 rfl rfl (by kernel_rfl) zZ z2 w2' ?_)
        | (go_at_call 30; (with_reducible refine (HWi _ hX6).mono ?_); rintro e w7 ⟨q, rfl, hqe, hqo, hx7⟩; obtain ⟨A1, hA1⟩ : ∃ A1, (encE q).toArray = A1 := ⟨_, rfl⟩; rw [hA1]; have z1 : A1.size = 19 := (by rw [← hA1]; rfl); have w1' : A1.all (·.oneCell') = true := (by rw [← hA1]; exact encO_one (some q)); have b7 := below_alloc w7 (.cells A1 43); have o7 := ObjAt.new w7 A1 43; have hq7 := hqo.below b7; have hY7 := hx7.trans (b7.mono hx7.size); obtain ⟨v7, hv7⟩ : ∃ v7, w7.alloc (.cells A1 43) = v7 := ⟨_, rfl⟩; rw [hv7] at o7 b7 hq7 hY7; have hX7 := hX6.trans (hY7.mono hX6.size); have hW7 := hW6.below hY7; have o67 := o6.below hY7 o6.lt; obtain ⟨k0, k1, k2⟩ := hKC _ (hb.trans (hX7.mono hb.size)); have u0 := o67.cell 0 rfl; have u1 := o67.cell 1 rfl; have u2 := o67.cell 2 rfl; have HRW := refWinnerC ac nc cc ak nk ck ad nd cd W x v7 hW7 hnk; rw [ho, hA2, hbW] at HRW)
        | (go_at_call 31; (with_reducible refine HRW.mono ?_); rintro e w8 ⟨rfl, hx8⟩; have b8 := below_alloc w8 (.cells A2 43); have o8 := ObjAt.new w8 A2 43; have hY8 := hx8.trans (b8.mono hx8.size); obtain ⟨v8, hv8⟩ : ∃ v8, w8.alloc (.cells A2 43) = v8 := ⟨_, rfl⟩; rw [hv8] at o8 b8 hY8; have hX8 := hX7.trans (hY8.mono hX7.size); have o78 := o7.below hY8 o7.lt; have o68 := o67.below hY8 o67.lt; have hW8 := hW7.below hY8; have hq8 := hq7.below hY8))
      have hqe2 : q.e = (winE o).e := hqe
      have hSX : ∀ v, Below v8.heap.size v8 v → v.cell? ⟨w.heap.size, 0, none⟩ = some (.string (str x.name)) ∧ v.cell? ⟨w.heap.size, 1, none⟩ = some (.string (str x.dom)) ∧ v.cell? ⟨w.heap.size, 2, none⟩ = some (.string (str x.path)) ∧ v.cell? ⟨w.heap.size + 1, 0, none⟩ = some (.int .i64 d.dev) ∧ v.cell? ⟨w.heap.size + 1, 1, none⟩ = some (.int .i64 d.inc) ∧ v.cell? ⟨w.heap.size + 1, 2, none⟩ = some (.int .i64 d.seq) ∧ v.cell? ⟨w6.heap.size, 0, none⟩ = some (.slice ac nc cc) ∧ v.cell? ⟨w6.heap.size, 1, none⟩ = some (.slice ak nk ck) ∧ v.cell? ⟨w6.heap.size, 2, none⟩ = some (.slice ad nd cd) ∧ ObjAt v w7.heap.size A1.toList ∧ ObjAt v w8.heap.size A2.toList := fun v hv => by
        obtain ⟨a0, a1, a2⟩ := hKC v (hb.trans ((hX8.trans (hv.mono hX8.size)).mono hb.size))
        obtain ⟨d0, d1, d2⟩ := hDC v (hb.trans ((hX8.trans (hv.mono hX8.size)).mono hb.size))
        have q1 := o68.below hv o68.lt
        exact ⟨a0, a1, a2, d0, d1, d2, q1.cell 0 rfl, q1.cell 1 rfl, q1.cell 2 rfl, o78.below hv o78.lt, o8.below hv o8.lt⟩
      have HAW8 := fun v (hv : Below v8.heap.size v8 v) => HAW v (hb.trans ((hX8.trans (hv.mono hX8.size)).mono hb.size))
      have hmx := fun v (hv : Below v8.heap.size v8 v) => hmv v (hX8.trans (hv.mono hX8.size))
      have hWx := fun v (hv : Below v8.heap.size v8 v) => hW8.below hv
      have hOx := fun v (hv : Below v8.heap.size v8 v) => hOW v (hb.trans ((hX8.trans (hv.mono hX8.size)).mono hb.size))
      have HK := fun v hv => mKeyC p F R W.plain x v (hmx v hv) hkx
      unfold GivesEs at HK
      have HRK : ∀ v, Below v8.heap.size v8 v → Calls Tryz.prog 34 #[.agg #[.slice ac nc cc, .slice ak nk ck, .slice ad nd cd], .agg #[.string (str x.name), .string (str x.dom), .string (str x.path)]] v fun en w' => ∃ a n c, en = .returned (.slice a n c) ∧ RowE w' a n c (keyM W.plain x) ∧ Below v.heap.size v w' := fun v hv => by
        refine (refKeyC ac nc cc ak nk ck ad nd cd W x v (hWx v hv) hnk).mono ?_
        rintro en w' ⟨a9, n9, c9, rfl, hz, hx⟩
        exact ⟨a9, n9, c9, rfl, ⟨keyR W x, key_map W x, hz.row encE_len, fun r hr => (hOx v hv r (alive_in ((List.mem_filter.1 hr).1))).below hx⟩, hx⟩
      have HSM : ∀ v, Below v8.heap.size v8 v → Calls Tryz.prog 35 #[.agg A1, .agg A2] v fun e w' => e = .returned (.bool true) ∧ Below v.heap.size v w' := fun v hv => by
        have h := refESameC q.e (winE o).e q.a (winE o).a q.e.over.length q.c (winE o).e.over.length (winE o).c v (hq8.below hv) (hwr v (hb.trans ((hX8.trans (hv.mono hX8.size)).mono hb.size)))
        rw [hqe2, same_self] at h
        rw [← hA1, ← hA2']
        unfold encE
        rw [hqe2]
        exact h
      have HH := fun v hv => mHasC p F R W.plain d v (hmx v hv) hfd
      have HRH := fun v hv => refHasVC ac nc cc W.ctx d v (hWx v hv).ctx
      have HD := fun v hv => mDeadC p F R W.plain d v (hmx v hv) hfd
      have HRD := fun v hv => refHasDC ad nd cd W.dead d v (hWx v hv).dead
      have eC : W.plain.ctx = W.ctx := rfl
      have eD : W.plain.dead = W.dead := rfl
      rw [eC] at HH
      rw [eD] at HD
      generalize hasV W.ctx d = bH at *
      generalize hasD W.dead d = bD at *
      generalize keyM W.plain x = LK at *
      have hbase := belowOn (belowOn b0 hb) hX8
      clear hZ zZ HWi HFO HRW k0 k1 k2 u0 u1 u2 hKC hDC hwr hOW hqe hqe2 hA1 hA2 hA2' hmv eC eD hb hX6 hX7 hX8 hW hW6 hW7 hW8 hq7 hq8 hqo o6 o67 o68 o7 o78 o8 b6 b7 b8 hY7 hY8 hx6 hx7 hx8 hi6 hwm ho hfew
      have hB1 : Below v8.heap.size v8 v8.drew := (Below.refl _ _).drew
      refine wp_region_held_drew (S := fun w' => w'.cell? ⟨w.heap.size, 0, none⟩ = some (.string (str x.name)) ∧ w'.cell? ⟨w.heap.size, 1, none⟩ = some (.string (str x.dom)) ∧ w'.cell? ⟨w.heap.size, 2, none⟩ = some (.string (str x.path)) ∧ w'.cell? ⟨w.heap.size + 1, 0, none⟩ = some (.int .i64 d.dev) ∧ w'.cell? ⟨w.heap.size + 1, 1, none⟩ = some (.int .i64 d.inc) ∧ w'.cell? ⟨w.heap.size + 1, 2, none⟩ = some (.int .i64 d.seq) ∧ w'.cell? ⟨w6.heap.size, 0, none⟩ = some (.slice ac nc cc) ∧ w'.cell? ⟨w6.heap.size, 1, none⟩ = some (.slice ak nk ck) ∧ w'.cell? ⟨w6.heap.size, 2, none⟩ = some (.slice ad nd cd) ∧ ObjAt w' w7.heap.size A1.toList ∧ ObjAt w' w8.heap.size A2.toList) (by kernel_rfl) (hSX _ hB1) (fun hHeld => ?_)
      first | (refine tR (i := 0) rfl rfl ?_) | (refine tL (i := 0) (v := ?vb1) rfl ?hyb1 ?rb1; case hyb1 => (rintro w' hS; obtain ⟨hs0, hs1, hs2, hs3, hs4, hs5, hs6, hs7, hs8, hs9, hs10⟩ := hS; go_simp; try with_reducible rfl))
      try simp only [gA, gB, Act.put, gD, gE, gF]
      first | (refine tR (i := 1) rfl rfl ?_) | (refine tL (i := 1) (v := ?vb2) rfl ?hyb2 ?rb2; case hyb2 => (rintro w' hS; obtain ⟨hs0, hs1, hs2, hs3, hs4, hs5, hs6, hs7, hs8, hs9, hs10⟩ := hS; go_simp; try with_reducible rfl))
      try simp only [gA, gB, gC, Act.put, gD, gE, gF]
      first | (refine tR (i := 3) rfl rfl ?_) | (refine tL (i := 3) (v := ?vb3) rfl ?hyb3 ?rb3; case hyb3 => (rintro w' hS; obtain ⟨hs0, hs1, hs2, hs3, hs4, hs5, hs6, hs7, hs8, hs9, hs10⟩ := hS; go_simp; try with_reducible rfl))
      try simp only [gA, gB, gC, Act.put, gD, gE, gF]
      first | (refine tR (i := 4) rfl rfl ?_) | (refine tL (i := 4) (v := ?vb4) rfl ?hyb4 ?rb4; case hyb4 => (rintro w' hS; obtain ⟨hs0, hs1, hs2, hs3, hs4, hs5, hs6, hs7, hs8, hs9, hs10⟩ := hS; go_simp; try with_reducible rfl))
      try simp only [gA, gB, gC, Act.put, gD, gE, gF]
      refine wpAnyH_ready (rs := [2]) (by kernel_rfl) (by simp) ?_
      refine AllReadyH.cons (o := _) rfl (fun K hK => ?_) AllReadyH.nil
      go_simp
      go_at_call 33; (with_reducible refine (HK _ hB1).mono ?_); rintro e v ⟨a3, n3, c3, rfl, hr3, hx⟩; have hB1 := hB1.trans (hx.mono hB1.size); clear hx
      dsimp only
      refine hK.out _ _ (hSX _ hB1) (fun hHeld => ?_)
      clear hK K
      try simp only [gA, gB, gC, Act.put, gD, gE, gF]
      refine wpAnyH_ready (rs := [5]) (by kernel_rfl) (by simp) ?_
      refine AllReadyH.cons (o := _) rfl (fun K hK => ?_) AllReadyH.nil
      go_simp
      go_at_call 34; (with_reducible refine (HRK _ hB1).mono ?_); rintro e v ⟨a4, n4, c4, rfl, hr4, hx⟩; have hr3 := hr3.below hx; have hB1 := hB1.trans (hx.mono hB1.size); clear hx
      dsimp only
      refine hK.out _ _ (hSX _ hB1) (fun hHeld => ?_)
      clear hK K
      try simp only [gA, gB, gC, Act.put, gD, gE, gF]
      refine wpAnyH_ready (rs := [6]) (by kernel_rfl) (by simp) ?_
      refine AllReadyH.cons (o := _) rfl (fun K hK => ?_) AllReadyH.nil
      go_simp
      go_at_call 32; (with_reducible refine (sameAX _ _ _ _ _ _ _ _ hr3 hr4).mono ?_); rintro e v ⟨rfl, hx⟩; have hB1 := hB1.trans (hx.mono hB1.size); clear hx
      dsimp only
      refine hK.out _ _ (hSX _ hB1) (fun hHeld => ?_)
      clear hK K
      try simp only [gA, gB, gC, Act.put, gD, gE, gF]
      first | (refine tR (i := 7) rfl rfl ?_) | (refine tL (i := 7) (v := ?vb5) rfl ?hyb5 ?rb5; case hyb5 => (rintro w' hS; obtain ⟨hs0, hs1, hs2, hs3, hs4, hs5, hs6, hs7, hs8, hs9, hs10⟩ := hS; go_simp; try with_reducible rfl))
      try simp only [gA, gB, gC, Act.put, gD, gE, gF]
      first | (refine tR (i := 8) rfl rfl ?_) | (refine tL (i := 8) (v := ?vb6) rfl ?hyb6 ?rb6; case hyb6 => (rintro w' hS; obtain ⟨hs0, hs1, hs2, hs3, hs4, hs5, hs6, hs7, hs8, hs9, hs10⟩ := hS; go_simp; try with_reducible rfl))
      try simp only [gA, gB, gC, Act.put, gD, gE, gF]
      first | (refine tR (i := 9) rfl rfl ?_) | (refine tL (i := 9) (v := ?vb7) rfl ?hyb7 ?rb7; case hyb7 => (rintro w' hS; obtain ⟨hs0, hs1, hs2, hs3, hs4, hs5, hs6, hs7, hs8, hs9, hs10⟩ := hS; go_simp; try with_reducible rfl))
      try simp only [gA, gB, gC, Act.put, gD, gE, gF]
      refine wpAnyH_take (i := 10) (v := .bool true) rfl (by kernel_rfl) (by kernel_rfl) (by kernel_rfl) (fun _ _ _ h => h) (Or.inl ⟨by rfl, fun w' hS => by go_simp⟩) (by assumption) ?_
      try simp only [gA, gB, gC, Act.put, gD, gE, gF]
      first | (refine tR (i := 11) rfl rfl ?_) | (refine tL (i := 11) (v := ?vb8) rfl ?hyb8 ?rb8; case hyb8 => (rintro w' hS; obtain ⟨hs0, hs1, hs2, hs3, hs4, hs5, hs6, hs7, hs8, hs9, hs10⟩ := hS; go_simp; try with_reducible rfl))
      try simp only [gA, gB, gC, Act.put, gD, gE, gF]
      first | (refine tR (i := 12) rfl rfl ?_) | (refine tL (i := 12) (v := ?vb9) rfl ?hyb9 ?rb9; case hyb9 => (rintro w' hS; obtain ⟨hs0, hs1, hs2, hs3, hs4, hs5, hs6, hs7, hs8, hs9, hs10⟩ := hS; go_simp; try with_reducible rfl))
      try simp only [gA, gB, gC, Act.put, gD, gE, gF]
      refine wpAnyH_take (i := 13) rfl (by kernel_rfl) (by kernel_rfl) (by kernel_rfl) (fun _ _ _ h => h) (Or.inl ⟨by rfl, fun w' hS => (by obtain ⟨-, -, -, -, -, -, -, -, -, hs9, hs10⟩ := hS; exact execLoadAll 43 _ rfl w7.heap.size 19 A1 rfl hs9 Tryz.isAgg43 Tryz.sizeOf43 z1)⟩) (by assumption) ?_
      try simp only [gA, gB, gC, Act.put, gD, gE, gF]
      refine wpAnyH_take (i := 14) rfl (by kernel_rfl) (by kernel_rfl) (by kernel_rfl) (fun _ _ _ h => h) (Or.inl ⟨by rfl, fun w' hS => (by obtain ⟨-, -, -, -, -, -, -, -, -, hs9, hs10⟩ := hS; exact execLoadAll 43 _ rfl w8.heap.size 19 A2 rfl hs10 Tryz.isAgg43 Tryz.sizeOf43 z2)⟩) (by assumption) ?_
      try simp only [gA, gB, gC, Act.put, gD, gE, gF]
      refine wpAnyH_ready (rs := [15]) (by kernel_rfl) (by simp) ?_
      refine AllReadyH.cons (o := _) rfl (fun K hK => ?_) AllReadyH.nil
      go_simp
      go_at_call 35; (with_reducible refine (HSM _ hB1).mono ?_); rintro e v ⟨rfl, hx⟩; have hB1 := hB1.trans (hx.mono hB1.size); clear hx
      dsimp only
      refine hK.out _ _ (hSX _ hB1) (fun hHeld => ?_)
      clear hK K
      try simp only [gA, gB, gC, Act.put, gD, gE, gF]
      first | (refine tR (i := 16) rfl rfl ?_) | (refine tL (i := 16) (v := ?vb10) rfl ?hyb10 ?rb10; case hyb10 => (rintro w' hS; obtain ⟨hs0, hs1, hs2, hs3, hs4, hs5, hs6, hs7, hs8, hs9, hs10⟩ := hS; go_simp; try with_reducible rfl))
      try simp only [gA, gB, gC, Act.put, gD, gE, gF]
      first | (refine tR (i := 17) rfl rfl ?_) | (refine tL (i := 17) (v := ?vb11) rfl ?hyb11 ?rb11; case hyb11 => (rintro w' hS; obtain ⟨hs0, hs1, hs2, hs3, hs4, hs5, hs6, hs7, hs8, hs9, hs10⟩ := hS; go_simp; try with_reducible rfl))
      try simp only [gA, gB, gC, Act.put, gD, gE, gF]
      first | (refine tR (i := 18) rfl rfl ?_) | (refine tL (i := 18) (v := ?vb12) rfl ?hyb12 ?rb12; case hyb12 => (rintro w' hS; obtain ⟨hs0, hs1, hs2, hs3, hs4, hs5, hs6, hs7, hs8, hs9, hs10⟩ := hS; go_simp; try with_reducible rfl))
      try simp only [gA, gB, gC, Act.put, gD, gE, gF]
      first | (refine tR (i := 19) rfl rfl ?_) | (refine tL (i := 19) (v := ?vb13) rfl ?hyb13 ?rb13; case hyb13 => (rintro w' hS; obtain ⟨hs0, hs1, hs2, hs3, hs4, hs5, hs6, hs7, hs8, hs9, hs10⟩ := hS; go_simp; try with_reducible rfl))
      try simp only [gA, gB, gC, Act.put, gD, gE, gF]
      first | (refine tR (i := 21) rfl rfl ?_) | (refine tL (i := 21) (v := ?vb14) rfl ?hyb14 ?rb14; case hyb14 => (rintro w' hS; obtain ⟨hs0, hs1, hs2, hs3, hs4, hs5, hs6, hs7, hs8, hs9, hs10⟩ := hS; go_simp; try with_reducible rfl))
      try simp only [gA, gB, gC, Act.put, gD, gE, gF]
      first | (refine tR (i := 22) rfl rfl ?_) | (refine tL (i := 22) (v := ?vb15) rfl ?hyb15 ?rb15; case hyb15 => (rintro w' hS; obtain ⟨hs0, hs1, hs2, hs3, hs4, hs5, hs6, hs7, hs8, hs9, hs10⟩ := hS; go_simp; try with_reducible rfl))
      try simp only [gA, gB, gC, Act.put, gD, gE, gF]
      first | (refine tR (i := 23) rfl rfl ?_) | (refine tL (i := 23) (v := ?vb16) rfl ?hyb16 ?rb16; case hyb16 => (rintro w' hS; obtain ⟨hs0, hs1, hs2, hs3, hs4, hs5, hs6, hs7, hs8, hs9, hs10⟩ := hS; go_simp; try with_reducible rfl))
      try simp only [gA, gB, gC, Act.put, gD, gE, gF]
      refine wpAnyH_ready (rs := [20]) (by kernel_rfl) (by simp) ?_
      refine AllReadyH.cons (o := _) rfl (fun K hK => ?_) AllReadyH.nil
      go_simp
      go_at_call 36; (with_reducible refine (HH _ hB1).mono ?_); rintro e v ⟨rfl, hx⟩; have hB1 := hB1.trans (hx.mono hB1.size); clear hx
      dsimp only
      refine hK.out _ _ (hSX _ hB1) (fun hHeld => ?_)
      clear hK K
      try simp only [gA, gB, gC, Act.put, gD, gE, gF]
      refine wpAnyH_ready (rs := [24]) (by kernel_rfl) (by simp) ?_
      refine AllReadyH.cons (o := _) rfl (fun K hK => ?_) AllReadyH.nil
      go_simp
      go_at_call 37; (with_reducible refine (HRH _ hB1).mono ?_); rintro e v ⟨rfl, hx⟩; have hB1 := hB1.trans (hx.mono hB1.size); clear hx
      dsimp only
      refine hK.out _ _ (hSX _ hB1) (fun hHeld => ?_)
      clear hK K
      try simp only [gA, gB, gC, Act.put, gD, gE, gF]
      refine wpAnyH_take (i := 25) (v := .bool true) rfl (by kernel_rfl) (by kernel_rfl) (by kernel_rfl) (fun _ _ _ h => h) (Or.inl ⟨by rfl, fun w' hS => by go_simp⟩) (by assumption) ?_
      try simp only [gA, gB, gC, Act.put, gD, gE, gF]
      first | (refine tR (i := 26) rfl rfl ?_) | (refine tL (i := 26) (v := ?vb17) rfl ?hyb17 ?rb17; case hyb17 => (rintro w' hS; obtain ⟨hs0, hs1, hs2, hs3, hs4, hs5, hs6, hs7, hs8, hs9, hs10⟩ := hS; go_simp; try with_reducible rfl))
      try simp only [gA, gB, gC, Act.put, gD, gE, gF]
      first | (refine tR (i := 27) rfl rfl ?_) | (refine tL (i := 27) (v := ?vb18) rfl ?hyb18 ?rb18; case hyb18 => (rintro w' hS; obtain ⟨hs0, hs1, hs2, hs3, hs4, hs5, hs6, hs7, hs8, hs9, hs10⟩ := hS; go_simp; try with_reducible rfl))
      try simp only [gA, gB, gC, Act.put, gD, gE, gF]
      first | (refine tR (i := 28) rfl rfl ?_) | (refine tL (i := 28) (v := ?vb19) rfl ?hyb19 ?rb19; case hyb19 => (rintro w' hS; obtain ⟨hs0, hs1, hs2, hs3, hs4, hs5, hs6, hs7, hs8, hs9, hs10⟩ := hS; go_simp; try with_reducible rfl))
      try simp only [gA, gB, gC, Act.put, gD, gE, gF]
      first | (refine tR (i := 29) rfl rfl ?_) | (refine tL (i := 29) (v := ?vb20) rfl ?hyb20 ?rb20; case hyb20 => (rintro w' hS; obtain ⟨hs0, hs1, hs2, hs3, hs4, hs5, hs6, hs7, hs8, hs9, hs10⟩ := hS; go_simp; try with_reducible rfl))
      try simp only [gA, gB, gC, Act.put, gD, gE, gF]
      first | (refine tR (i := 31) rfl rfl ?_) | (refine tL (i := 31) (v := ?vb21) rfl ?hyb21 ?rb21; case hyb21 => (rintro w' hS; obtain ⟨hs0, hs1, hs2, hs3, hs4, hs5, hs6, hs7, hs8, hs9, hs10⟩ := hS; go_simp; try with_reducible rfl))
      try simp only [gA, gB, gC, Act.put, gD, gE, gF]
      first | (refine tR (i := 32) rfl rfl ?_) | (refine tL (i := 32) (v := ?vb22) rfl ?hyb22 ?rb22; case hyb22 => (rintro w' hS; obtain ⟨hs0, hs1, hs2, hs3, hs4, hs5, hs6, hs7, hs8, hs9, hs10⟩ := hS; go_simp; try with_reducible rfl))
      try simp only [gA, gB, gC, Act.put, gD, gE, gF]
      first | (refine tR (i := 33) rfl rfl ?_) | (refine tL (i := 33) (v := ?vb23) rfl ?hyb23 ?rb23; case hyb23 => (rintro w' hS; obtain ⟨hs0, hs1, hs2, hs3, hs4, hs5, hs6, hs7, hs8, hs9, hs10⟩ := hS; go_simp; try with_reducible rfl))
      try simp only [gA, gB, gC, Act.put, gD, gE, gF]
      refine wpAnyH_ready (rs := [30]) (by kernel_rfl) (by simp) ?_
      refine AllReadyH.cons (o := _) rfl (fun K hK => ?_) AllReadyH.nil
      go_simp
      go_at_call 38; (with_reducible refine (HD _ hB1).mono ?_); rintro e v ⟨rfl, hx⟩; have hB1 := hB1.trans (hx.mono hB1.size); clear hx
      dsimp only
      refine hK.out _ _ (hSX _ hB1) (fun hHeld => ?_)
      clear hK K
      try simp only [gA, gB, gC, Act.put, gD, gE, gF]
      refine wpAnyH_ready (rs := [34]) (by kernel_rfl) (by simp) ?_
      refine AllReadyH.cons (o := _) rfl (fun K hK => ?_) AllReadyH.nil
      go_simp
      go_at_call 39; (with_reducible refine (HRD _ hB1).mono ?_); rintro e v ⟨rfl, hx⟩; have hB1 := hB1.trans (hx.mono hB1.size); clear hx
      dsimp only
      refine hK.out _ _ (hSX _ hB1) (fun hHeld => ?_)
      clear hK K
      try simp only [gA, gB, gC, Act.put, gD, gE, gF]
      refine wpAnyH_take (i := 35) (v := .bool true) rfl (by kernel_rfl) (by kernel_rfl) (by kernel_rfl) (fun _ _ _ h => h) (Or.inl ⟨by rfl, fun w' hS => by go_simp⟩) (by assumption) ?_
      try simp only [gA, gB, gC, Act.put, gD, gE, gF]
      first | (refine tR (i := 36) rfl rfl ?_) | (refine tL (i := 36) (v := ?vb24) rfl ?hyb24 ?rb24; case hyb24 => (rintro w' hS; obtain ⟨hs0, hs1, hs2, hs3, hs4, hs5, hs6, hs7, hs8, hs9, hs10⟩ := hS; go_simp; try with_reducible rfl))
      try simp only [gA, gB, gC, Act.put, gD, gE, gF]
      first | (refine tR (i := 37) rfl rfl ?_) | (refine tL (i := 37) (v := ?vb25) rfl ?hyb25 ?rb25; case hyb25 => (rintro w' hS; obtain ⟨hs0, hs1, hs2, hs3, hs4, hs5, hs6, hs7, hs8, hs9, hs10⟩ := hS; go_simp; try with_reducible rfl))
      try simp only [gA, gB, gC, Act.put, gD, gE, gF]
      refine wpAnyH_ready (rs := [38]) (by kernel_rfl) (by simp) ?_
      refine AllReadyH.cons (o := _) rfl (fun K hK => ?_) AllReadyH.nil
      go_simp
      go_at_call 16; (with_reducible refine (HAW8 _ hB1).mono ?_); rintro e v ⟨rfl, hx⟩; have hB1 := hB1.trans (hx.mono hB1.size); clear hx
      dsimp only
      refine hK.out _ _ (hSX _ hB1) (fun hHeld => ?_)
      clear hK K
      try simp only [gA, gB, gC, Act.put, gD, gE, gF]
      first | (refine tR (i := 39) rfl rfl ?_) | (refine tL (i := 39) (v := ?vb26) rfl ?hyb26 ?rb26; case hyb26 => (rintro w' hS; obtain ⟨hs0, hs1, hs2, hs3, hs4, hs5, hs6, hs7, hs8, hs9, hs10⟩ := hS; go_simp; try with_reducible rfl))
      try simp only [gA, gB, gC, Act.put, gD, gE, gF]
      first | (refine tR (i := 40) rfl rfl ?_) | (refine tL (i := 40) (v := ?vb27) rfl ?hyb27 ?rb27; case hyb27 => (rintro w' hS; obtain ⟨hs0, hs1, hs2, hs3, hs4, hs5, hs6, hs7, hs8, hs9, hs10⟩ := hS; go_simp; try with_reducible rfl))
      try simp only [gA, gB, gC, Act.put, gD, gE, gF]
      refine wpAnyH_done (by kernel_rfl) ?_ _
      go_wp2
      go_ret
      exact ⟨rfl, belowOn hbase hB1⟩
end Go.Proofs.YtaodjnkjjmhecaaGreatDoor
