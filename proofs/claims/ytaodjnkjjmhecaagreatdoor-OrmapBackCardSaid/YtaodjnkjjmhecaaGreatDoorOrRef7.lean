/- Contracts and plain words that the laws' proofs stand on. -/
import Derived.Test.YtaodjnkjjmhecaaGreatDoorShort
import Derived.Test.YtaodjnkjjmhecaaGreatDoorLibAC
import Derived.Test.YtaodjnkjjmhecaaGreatDoorLibAI
namespace Go.Proofs.YtaodjnkjjmhecaaGreatDoor
open Go.RowKit
set_option linter.unusedVariables false
set_option linter.unusedSimpArgs false
def frontKR (l : List EvR) (r : EvR) : Nat := l.findIdx fun y => !keyLess y.e.item r.e.item
def insKR (l : List EvR) (r : EvR) : List EvR := l.take (frontKR l r) ++ r :: l.drop (frontKR l r)
theorem insK_map (l : List EvR) (r : EvR) : (insKR l r).map (·.e) = insK (l.map (·.e)) r.e := by
  have h : frontK (l.map (·.e)) r.e = frontKR l r := by unfold frontK frontKR; rw [List.findIdx_map]; rfl
  unfold insKR insK
  rw [h, List.map_append, List.map_cons, List.map_take, List.map_drop]
theorem frontKR_is {l : List EvR} {r : EvR} {K : Nat} (h : ∀ (j : Nat) (y : EvR), j < K → l[j]? = some y → keyLess y.e.item r.e.item = true) (hK : K ≤ l.length) (hs : K = l.length ∨ ∃ y, l[K]? = some y ∧ keyLess y.e.item r.e.item = false) : frontKR l r = K := by
  unfold frontKR
  rcases hs with rfl | ⟨y, hy, hl⟩
  · rw [List.findIdx_eq_length]
    intro x hx
    obtain ⟨j, hj, e⟩ := List.getElem_of_mem hx
    have := h j x hj (by rw [List.getElem?_eq_getElem hj, e])
    simp [this]
  · obtain ⟨hlt, e⟩ := List.getElem?_eq_some_iff.1 hy
    rw [List.findIdx_eq hlt]
    refine ⟨by rw [e]; simp [hl], fun j hj => ?_⟩
    have := h j _ hj (List.getElem?_eq_getElem (by omega))
    simp [this]
def winStepR (m : MapR) (out : List EvR) (x : EvR) : List EvR :=
  match winnerR m x.e.item with
  | none => out
  | some e => if sameD e.e.dot x.e.dot = true then insKR out e else out
def winnersR (m : MapR) : List EvR := (aliveR m).foldl (winStepR m) []
theorem winStep_map (m : MapR) (out : List EvR) (x : EvR) : (winStepR m out x).map (·.e) = winStep m.plain (out.map (·.e)) x.e := by
  unfold winStepR winStep
  rw [← winner_map]
  cases winnerR m x.e.item with
  | none => rfl
  | some e =>
    dsimp only [Option.map_some]
    split
    · exact insK_map _ _
    · rfl
theorem winners_map (m : MapR) : (winnersR m).map (·.e) = winnersM m.plain := by
  have h : ∀ (l out : List EvR), (l.foldl (winStepR m) out).map (·.e) = (l.map (·.e)).foldl (winStep m.plain) (out.map (·.e)) := by
    intro l
    induction l with
    | nil => exact fun _ => rfl
    | cons x t ih =>
      intro out
      rw [List.foldl_cons, List.map_cons, List.foldl_cons, ih, winStep_map]
  unfold winnersR winnersM
  rw [h, alive_map]
  rfl
theorem winner_of {m : MapR} {r : EvR} (h : r ∈ aliveR m) : ∃ y, winnerR m r.e.item = some y := by
  have h1 : r ∈ keyR m r.e.item := List.mem_filter.2 ⟨h, by unfold sameKey; simp⟩
  unfold winnerR
  cases hl : keyR m r.e.item with
  | nil => rw [hl] at h1; cases h1
  | cons z t => exact best_some t z
set_option maxHeartbeats 4000000 in
set_option maxRecDepth 100000 in
theorem refWinnersC (ac : Option Addr) (nc cc : Nat) (ak : Option Addr) (nk ck : Nat) (ad : Option Addr) (nd cd : Nat) (m : MapR) (w : World) (hM : RowM w ac nc cc ak nk ck ad nd cd m) (hn : nk ≤ 100000) :
    Calls Tryz.prog 79 #[.agg #[.slice ac nc cc, .slice ak nk ck, .slice ad nd cd]] w (GivesR (winnersR m) w) := by
  obtain ⟨i0, hi, hz0, hz1, hz2⟩ := info_parts infoEvent
  obtain ⟨Z, hZ⟩ : ∃ Z, (#[.int .i64 0, .int .i64 0, .int .i64 0, .int .i64 0, .int .i64 0, .int .i64 0, .int .i64 0, .string ⟨#[]⟩, .string ⟨#[]⟩, .string ⟨#[]⟩, .string ⟨#[]⟩, .bool false, .bool false, .bool false, .bool false, .int .i64 0, .int .i64 0, .int .i64 0, .slice none 0 0] : Array Value) = Z := ⟨_, rfl⟩
  have lZ : Z.toList.length = 19 := by rw [← hZ]; rfl
  have o1 := ObjAt.new w #[.slice ac nc cc, .slice ak nk ck, .slice ad nd cd] 31
  have b1 := below_alloc w (.cells #[.slice ac nc cc, .slice ak nk ck, .slice ad nd cd] 31)
  have hlt1 := o1.lt
  generalize hw1 : w.alloc (.cells #[.slice ac nc cc, .slice ak nk ck, .slice ad nd cd] 31) = w1 at *
  have b2 := below_alloc w1 (.cells #[] 43)
  have z2 := (OwnZ.lit encE 19 43 w1).base b1.size
  have hb2 := b1.trans (b2.mono b1.size)
  have o2 := o1.below b2 hlt1
  generalize hw2 : w1.alloc (.cells #[] 43) = w2 at *
  have m0 := o2.cell 0 rfl; have m1 := o2.cell 1 rfl; have m2 := o2.cell 2 rfl
  have HA := refAliveC ac nc cc ak nk ck ad nd cd m w2 (hM.below hb2) hn
  have HW0 := fun v x (hv : Below w.heap.size w v) => refWinnerC ac nc cc ak nk ck ad nd cd m x v (hM.below hv) hn
  have hlen : (aliveR m).length ≤ 100000 := by
    have h1 := alive_few m
    have h2 := hM.kept.leq
    omega
  have hal := fun r (h : r ∈ aliveR m) => winner_of h
  unfold winnersR GivesR
  generalize aliveR m = L at *
  clear hM
  go_enter Tryz.func79, Tryz.ntmps79
  go_wp2_with (go_at_call 78; (with_reducible refine HA.mono ?_); rintro e w3 ⟨ql, nl, cl, rfl, hzl3, hx3⟩)
  have hrL := fun v (hv : Below w3.heap.size w3 v) => (hzl3.row encE_len).below hv
  have hln := hzl3.2.1
  have hcl := (hzl3.row encE_len).cle
  have hcm := (hzl3.row encE_len).capm
  unfold maxLen at hcm
  have hb3 := hb2.trans (hx3.mono hb2.size)
  have z3 := z2.below hx3 (Nat.le_refl _)
  have o3 := o2.below hx3 (Nat.lt_of_lt_of_le hlt1 b2.size)
  have hbx := fun v (hv : Below w3.heap.size w3 v) => o3.below hv o3.lt
  clear HA hzl3 z2 m0 m1 m2 o1 o2 b2 hx3 hw1 hw2 hb2 b1
  go_loopw [3, 5] (fun s i wr => ∃ (k K c2 : Nat) (q : Option Addr) (P : List EvR), k ≤ nl ∧ K ≤ k ∧ i = .int .i64 (k : Int) ∧ s = .slice q K c2 ∧ OwnZ encE 19 w.heap.size 43 q K c2 P wr ∧ Hid (P = (L.take k).foldl (winStepR m) []) ∧ Below w3.heap.size w3 wr) (fun _ i _ => nl - (intOf i).toNat)
  case atStart => exact ⟨0, 0, 0, _, [], Nat.zero_le _, Nat.le_refl _, rfl, rfl, z3, rfl, Below.refl _ _⟩
  case round =>
    clear z3
    obtain ⟨k, K, c2, q, P, hk, hKk, rfl, rfl, hz, hP, hB3⟩ := hrel
    have hb := hb3.trans (hB3.mono hb3.size)
    by_cases hlt : k < nl
    · have hlt' : (k : Int) < (nl : Int) := by omega
      have i1 : (0 : Int) ≤ (k : Int) := by omega
      obtain ⟨r, g1, f1, A, hk1, rfl, hA, zA, lA, cA, kA⟩ := evr_at (hrL wr hB3) k hlt
      obtain ⟨y, hy⟩ := hal r (List.mem_of_getElem? hk1)
      have hst : (L.take (k + 1)).foldl (winStepR m) [] = if sameD y.e.dot r.e.dot = true then insKR P y else P := by
        rw [take_snocI hk1, List.foldl_append, ← hP.out]
        show winStepR m P r = _
        unfold winStepR
        rw [hy]
      have HST := Lib.hid hst
      obtain ⟨B, hBy⟩ : ∃ B, (encE y).toArray = B := ⟨_, rfl⟩
      have zB : B.size = 19 := by rw [← hBy]; rfl
      have oB : B.all (·.oneCell') = true := by rw [← hBy]; exact encO_one (some y)
      have lB : B.toList = encE y := by rw [← hBy]
      have HW : ∀ v, Below wr.heap.size wr v → Calls Tryz.prog 31 #[.agg #[.slice ac nc cc, .slice ak nk ck, .slice ad nd cd], .agg #[.string (str r.e.item.name), .string (str r.e.item.dom), .string (str r.e.item.path)]] v fun en w' => en = .returned (.tuple #[.agg B, .bool true]) ∧ Below v.heap.size v w' := fun v hv => by
        have h := HW0 v r.e.item (hb.trans (hv.mono hb.size))
        rw [hy] at h
        have e1 : (encO (some y)).toArray = B := hBy
        rw [e1] at h
        exact h
      have hS0 : ∀ w', Below wr.heap.size wr w' → w'.cell? ⟨w.heap.size, 0, none⟩ = some (.slice ac nc cc) ∧ w'.cell? ⟨w.heap.size, 1, none⟩ = some (.slice ak nk ck) ∧ w'.cell? ⟨w.heap.size, 2, none⟩ = some (.slice ad nd cd) ∧ w'.cell? ⟨g1, f1 + k * 19 + 7, none⟩ = some (.string (str r.e.item.name)) ∧ w'.cell? ⟨g1, f1 + k * 19 + 8, none⟩ = some (.string (str r.e.item.dom)) ∧ w'.cell? ⟨g1, f1 + k * 19 + 9, none⟩ = some (.string (str r.e.item.path)) := fun w' h => by
        have c1 := kA w' h
        have o2 := hbx w' (hB3.trans (h.mono hB3.size))
        rw [lA] at c1
        exact ⟨o2.cell 0 rfl, o2.cell 1 rfl, o2.cell 2 rfl, c1 7 _ rfl, c1 8 _ rfl, c1 9 _ rfl⟩
      clear hst hk1 cA hy
      go_upto_region 6 with fail
      go_cut [6] (fun s6 wx => ∃ we, s6 = .pointer (some ⟨we, 0, none⟩) ∧ ObjAt wx we B.toList ∧ Below wr.heap.size wr wx)
      case first =>
        refine wp_region_held_drew (S := fun w' => w'.cell? ⟨w.heap.size, 0, none⟩ = some (.slice ac nc cc) ∧ w'.cell? ⟨w.heap.size, 1, none⟩ = some (.slice ak nk ck) ∧ w'.cell? ⟨w.heap.size, 2, none⟩ = some (.slice ad nd cd) ∧ w'.cell? ⟨g1, f1 + k * 19 + 7, none⟩ = some (.string (str r.e.item.name)) ∧ w'.cell? ⟨g1, f1 + k * 19 + 8, none⟩ = some (.string (str r.e.item.dom)) ∧ w'.cell? ⟨g1, f1 + k * 19 + 9, none⟩ = some (.string (str r.e.item.path))) (by kernel_rfl) (hS0 _ (Below.refl wr.heap.size wr).drew) (fun hHeld => ?_)
        have hd0 : Below wr.heap.size wr wr.drew := (Below.refl wr.heap.size wr).drew
        generalize wr.drew = u0 at *
        first | (refine tR (i := 0) rfl rfl ?_) | (refine tL (i := 0) (v := ?vi15) rfl ?hyi15 ?ri15; case hyi15 => (rintro w' hS; obtain ⟨hs0, hs1, hs2, hs3, hs4, hs5⟩ := hS; go_simp; try with_reducible rfl))
        try simp only [gA, gB, Act.put, gD, gE, gF]
        first | (refine tR (i := 1) rfl rfl ?_) | (refine tL (i := 1) (v := ?vi16) rfl ?hyi16 ?ri16; case hyi16 => (rintro w' hS; obtain ⟨hs0, hs1, hs2, hs3, hs4, hs5⟩ := hS; go_simp; try with_reducible rfl))
        try simp only [gA, gB, gC, Act.put, gD, gE, gF]
        first | (refine tR (i := 2) rfl rfl ?_) | (refine tL (i := 2) (v := ?vi17) rfl ?hyi17 ?ri17; case hyi17 => (rintro w' hS; obtain ⟨hs0, hs1, hs2, hs3, hs4, hs5⟩ := hS; go_simp; try with_reducible rfl))
        try simp only [gA, gB, gC, Act.put, gD, gE, gF]
        first | (refine tR (i := 3) rfl rfl ?_) | (refine tL (i := 3) (v := ?vi18) rfl ?hyi18 ?ri18; case hyi18 => (rintro w' hS; obtain ⟨hs0, hs1, hs2, hs3, hs4, hs5⟩ := hS; go_simp; try with_reducible rfl))
        try simp only [gA, gB, gC, Act.put, gD, gE, gF]
        first | (refine tR (i := 4) rfl rfl ?_) | (refine tL (i := 4) (v := ?vi19) rfl ?hyi19 ?ri19; case hyi19 => (rintro w' hS; obtain ⟨hs0, hs1, hs2, hs3, hs4, hs5⟩ := hS; go_simp; try with_reducible rfl))
        try simp only [gA, gB, gC, Act.put, gD, gE, gF]
        first | (refine tR (i := 5) rfl rfl ?_) | (refine tL (i := 5) (v := ?vi20) rfl ?hyi20 ?ri20; case hyi20 => (rintro w' hS; obtain ⟨hs0, hs1, hs2, hs3, hs4, hs5⟩ := hS; go_simp; try with_reducible rfl))
        try simp only [gA, gB, gC, Act.put, gD, gE, gF]
        refine wpAnyH_ready (rs := [6, 10]) (by kernel_rfl) (by simp) ?_
        refine AllReadyH.cons (o := _) rfl (fun K' hK' => ?_) (AllReadyH.cons (o := _) rfl (fun K' hK' => ?_) AllReadyH.nil)
        · go_simp
          go_at_call 31
          refine (HW u0 hd0).mono ?_
          rintro e w5 ⟨rfl, hx5⟩
          have hb5 := hd0.trans (hx5.mono hd0.size)
          dsimp only
          refine hK'.out _ _ (hS0 _ hb5) (fun hHeld => ?_)
          clear hK' K'
          try simp only [gA, gB, gC, Act.put, gD, gE, gF]
          first | (refine tR (i := 7) rfl rfl ?_) | (refine tL (i := 7) (v := ?vi21) rfl ?hyi21 ?ri21; case hyi21 => (rintro w' hS; obtain ⟨hs0, hs1, hs2, hs3, hs4, hs5⟩ := hS; go_simp; try with_reducible rfl))
          try simp only [gA, gB, gC, Act.put, gD, gE, gF]
          first | (refine tR (i := 8) rfl rfl ?_) | (refine tL (i := 8) (v := ?vi22) rfl ?hyi22 ?ri22; case hyi22 => (rintro w' hS; obtain ⟨hs0, hs1, hs2, hs3, hs4, hs5⟩ := hS; go_simp; try with_reducible rfl))
          try simp only [gA, gB, gC, Act.put, gD, gE, gF]
          first | (refine tR (i := 9) rfl rfl ?_) | (refine tL (i := 9) (v := ?vi23) rfl ?hyi23 ?ri23; case hyi23 => (rintro w' hS; obtain ⟨hs0, hs1, hs2, hs3, hs4, hs5⟩ := hS; go_simp; try with_reducible rfl))
          try simp only [gA, gB, gC, Act.put, gD, gE, gF]
          refine wpAnyH_ready (rs := [10]) (by kernel_rfl) (by simp) ?_
          refine AllReadyH.cons (o := _) rfl (fun K' hK' => ?_) AllReadyH.nil
          go_simp
          have ba := below_alloc w5 (.cells Z 43)
          have oz := ObjAt.new w5 Z 43
          have hb6 := hb5.trans (ba.mono hb5.size)
          refine hK'.out _ _ (hS0 _ hb6) (fun hHeld => ?_)
          clear hK' K'
          try simp only [gA, gB, gC, Act.put, gD, gE, gF]
          generalize w5.alloc (.cells Z 43) = w6 at *
          have hle := hb5.size
          refine wpAnyH_ready (rs := [11]) (by kernel_rfl) (by simp) ?_
          refine AllReadyH.cons (o := _) rfl (fun K' hK' => ?_) AllReadyH.nil
          refine step_storeOver (by rfl) 43 _ _ (by rfl) w5.heap.size _ B 19 rfl rfl oz (by kernel_rfl) lZ zB oB ?_
          have hob := (oz).setRow B
          have hb7 := below_rowSet hb6 (g := w5.heap.size) (by have := hle; omega) B
          refine hK'.out _ _ (hS0 _ hb7) (fun hHeld => ?_)
          clear hK' K'
          try simp only [gA, gB, gC, Act.put]
          first | (refine tR (i := 12) rfl rfl ?_) | (refine tL (i := 12) (v := ?vi24) rfl ?hyi24 ?ri24; case hyi24 => (rintro w' hS; obtain ⟨hs0, hs1, hs2, hs3, hs4, hs5⟩ := hS; go_simp; try with_reducible rfl))
          try simp only [gA, gB, gC, Act.put, gD, gE, gF]
          refine wpAnyH_done (by kernel_rfl) ?_ _
          go_wp2
          go_meet
          exact ⟨_, rfl, hob, hb7⟩
        · go_simp
          have ba := below_alloc u0 (.cells Z 43)
          have oz := ObjAt.new u0 Z 43
          have hb6 := hd0.trans (ba.mono hd0.size)
          refine hK'.out _ _ (hS0 _ hb6) (fun hHeld => ?_)
          clear hK' K'
          try simp only [gA, gB, gC, Act.put, gD, gE, gF]
          generalize u0.alloc (.cells Z 43) = w6 at *
          have hle := hd0.size
          have hzl := oz.lt
          refine wpAnyH_ready (rs := [6]) (by kernel_rfl) (by simp) ?_
          refine AllReadyH.cons (o := _) rfl (fun K' hK' => ?_) AllReadyH.nil
          go_simp
          go_at_call 31
          refine (HW w6 hb6).mono ?_
          rintro e w5 ⟨rfl, hx5⟩
          have hb5 := hb6.trans (hx5.mono hb6.size)
          dsimp only
          refine hK'.out _ _ (hS0 _ hb5) (fun hHeld => ?_)
          clear hK' K'
          try simp only [gA, gB, gC, Act.put, gD, gE, gF]
          first | (refine tR (i := 7) rfl rfl ?_) | (refine tL (i := 7) (v := ?vi25) rfl ?hyi25 ?ri25; case hyi25 => (rintro w' hS; obtain ⟨hs0, hs1, hs2, hs3, hs4, hs5⟩ := hS; go_simp; try with_reducible rfl))
          try simp only [gA, gB, gC, Act.put, gD, gE, gF]
          first | (refine tR (i := 8) rfl rfl ?_) | (refine tL (i := 8) (v := ?vi26) rfl ?hyi26 ?ri26; case hyi26 => (rintro w' hS; obtain ⟨hs0, hs1, hs2, hs3, hs4, hs5⟩ := hS; go_simp; try with_reducible rfl))
          try simp only [gA, gB, gC, Act.put, gD, gE, gF]
          first | (refine tR (i := 9) rfl rfl ?_) | (refine tL (i := 9) (v := ?vi27) rfl ?hyi27 ?ri27; case hyi27 => (rintro w' hS; obtain ⟨hs0, hs1, hs2, hs3, hs4, hs5⟩ := hS; go_simp; try with_reducible rfl))
          try simp only [gA, gB, gC, Act.put, gD, gE, gF]
          have oz5 := oz.below hx5 hzl
          refine wpAnyH_ready (rs := [11]) (by kernel_rfl) (by simp) ?_
          refine AllReadyH.cons (o := _) rfl (fun K' hK' => ?_) AllReadyH.nil
          refine step_storeOver (by rfl) 43 _ _ (by rfl) u0.heap.size _ B 19 rfl rfl oz5 (by kernel_rfl) lZ zB oB ?_
          have hob := (oz5).setRow B
          have hb7 := below_rowSet hb5 (g := u0.heap.size) (by have := hle; omega) B
          refine hK'.out _ _ (hS0 _ hb7) (fun hHeld => ?_)
          clear hK' K'
          try simp only [gA, gB, gC, Act.put]
          first | (refine tR (i := 12) rfl rfl ?_) | (refine tL (i := 12) (v := ?vi28) rfl ?hyi28 ?ri28; case hyi28 => (rintro w' hS; obtain ⟨hs0, hs1, hs2, hs3, hs4, hs5⟩ := hS; go_simp; try with_reducible rfl))
          try simp only [gA, gB, gC, Act.put, gD, gE, gF]
          refine wpAnyH_done (by kernel_rfl) ?_ _
          go_wp2
          go_meet
          exact ⟨_, rfl, hob, hb7⟩
      case rest =>
        obtain ⟨we, rfl, hoe, hBc⟩ := hcut
        have hBc3 := hB3.trans (hBc.mono hB3.size)
        clear hZ lZ
        have hfold : Array.foldl (fun cs x => cs.setIfInBounds x.snd x.fst) (#[.int .i64 0, .int .i64 0, .int .i64 0, .int .i64 0, .int .i64 0, .int .i64 0, .int .i64 0, .string ⟨#[]⟩, .string ⟨#[]⟩, .string ⟨#[]⟩, .string ⟨#[]⟩, .bool false, .bool false, .bool false, .bool false, .int .i64 0, .int .i64 0, .int .i64 0, .slice none 0 0] : Array Value) B.zipIdx 0 19 = B := foldSet B _ 19 zB rfl
        have cA1 := kA _ hBc
        rw [lA] at cA1
        have hoe' := hoe
        rw [lB] at hoe'
        have d0 := hoe'.cell 0 rfl; have d1 := hoe'.cell 1 rfl; have d2 := hoe'.cell 2 rfl
        have a0 := cA1 0 _ rfl; have a1 := cA1 1 _ rfl; have a2 := cA1 2 _ rfl
        simp only [Nat.add_zero] at a0
        have hE := fun v => eqDot y.e.dot r.e.dot v
        have hzc := hz.below hBc (Nat.le_refl _)
        have hbc := hb.trans (hBc.mono hb.size)
        have bd : Below wc.heap.size wc wc.drew := (Below.refl _ wc).drew
        clear hS0 HW HW0 kA hz hal
        generalize sameD y.e.dot r.e.dot = T at *
        cases T with
        | false =>
          rw [if_neg Bool.false_ne_true] at HST
          go_wp2_with fail
          go_region
          all_goals (
            go_wp2
            go_roundw
            case rel => exact ⟨k + 1, K, c2, q, P, by omega, by omega, by go_num, rfl, hzc.below bd (Nat.le_refl _), by unfold Hid; rw [HST.out], hBc3.trans (bd.mono hBc3.size)⟩
            case measure => simp [intOf]; omega)
        | true =>
          rw [if_pos rfl] at HST
          have hoeB := fun v (hv : Below wc.heap.size wc v) => hoe.below hv hoe.lt
          have hzB := fun v (hv : Below wc.heap.size wc v) => (hzc.row encE_len).below hv
          have hPl : P.length = K := hzc.2.1
          have hKc2 := hzc.2.2.1
          have hcm2 := hzc.2.2.2
          unfold maxLen at hcm2
          obtain ⟨wo, hwo⟩ : ∃ wo, wo = wr := ⟨wr, rfl⟩
          subst hwo
          clear hoe hzc cA1 hoe'
          go_wp2_with fail
          go_quiet (fail)
          go_wp2_with fail
          refine wp_some (fun wd => Below wc.heap.size wc wd) (drawn_below (Below.refl _ _) _) ?_
          clear bd hE d0 d1 d2 a0 a1 a2
          rintro wx hbx2
          go_loopw [8] (fun kv wr2 => ∃ K2 : Nat, K2 ≤ K ∧ kv = .int .i64 (K2 : Int) ∧ Hid (∀ (j : Nat) (z : EvR), j < K2 → P[j]? = some z → keyLess z.e.item y.e.item = true) ∧ Below wc.heap.size wc wr2) (fun kv _ => K - (intOf kv).toNat)
          case atStart => exact ⟨0, Nat.zero_le _, rfl, fun j z hj => absurd hj (Nat.not_lt_zero _), hbx2⟩
          case round =>
            obtain ⟨K2, hK2, rfl, hs, hB2⟩ := hrel
            have hKc9 : K2 ≤ c2 := Nat.le_trans hK2 hKc2
            by_cases h0 : K2 < K
            · have hlt2 : (K2 : Int) < (K : Int) := by omega
              have hd' : decide ((K2 : Int) < (K : Int)) = true := decide_eq_true hlt2
              have i2 : (0 : Int) ≤ (K2 : Int) := by omega
              obtain ⟨z, g2, f2, A2, hz2', rfl, hA2, zA2, lA2, cA2, kA2⟩ := evr_at (hzB _ hB2) K2 h0
              have HL := fun v => refKeyLessC z.e.item y.e.item v
              have hS9 : ∀ w', Below wr.heap.size wr w' → w'.cell? ⟨g2, f2 + K2 * 19 + 7, none⟩ = some (.string (str z.e.item.name)) ∧ w'.cell? ⟨g2, f2 + K2 * 19 + 8, none⟩ = some (.string (str z.e.item.dom)) ∧ w'.cell? ⟨g2, f2 + K2 * 19 + 9, none⟩ = some (.string (str z.e.item.path)) ∧ w'.cell? ⟨we, 7, none⟩ = some (.string (str y.e.item.name)) ∧ w'.cell? ⟨we, 8, none⟩ = some (.string (str y.e.item.dom)) ∧ w'.cell? ⟨we, 9, none⟩ = some (.string (str y.e.item.path)) := fun w' h => by
                have c1 := kA2 w' h
                have o2 := hoeB w' (hB2.trans (h.mono hB2.size))
                rw [lB] at o2
                rw [lA2] at c1
                exact ⟨c1 7 _ rfl, c1 8 _ rfl, c1 9 _ rfl, o2.cell 7 rfl, o2.cell 8 rfl, o2.cell 9 rfl⟩
              have hdr : Below wr.heap.size wr wr.drew := (Below.refl _ wr).drew
              clear cA2 kA2 hA2 zA2 lA2
              cases hab : keyLess z.e.item y.e.item with
              | true =>
                simp only [hab] at HL
                have hnext : Hid (∀ (j : Nat) (v : EvR), j < K2 + 1 → P[j]? = some v → keyLess v.e.item y.e.item = true) := fun j v hj hv => by
                  by_cases e : j = K2
                  · subst e
                    rw [hz2'] at hv
                    cases hv
                    exact hab
                  · exact hs.out j v (by omega) hv
                clear hs hab hz2'
                go_wp2_with fail
                go_region_held3 (fun w' => w'.cell? ⟨g2, f2 + K2 * 19 + 7, none⟩ = some (.string (str z.e.item.name)) ∧ w'.cell? ⟨g2, f2 + K2 * 19 + 8, none⟩ = some (.string (str z.e.item.dom)) ∧ w'.cell? ⟨g2, f2 + K2 * 19 + 9, none⟩ = some (.string (str z.e.item.path)) ∧ w'.cell? ⟨we, 7, none⟩ = some (.string (str y.e.item.name)) ∧ w'.cell? ⟨we, 8, none⟩ = some (.string (str y.e.item.dom)) ∧ w'.cell? ⟨we, 9, none⟩ = some (.string (str y.e.item.path)))
                  (first | exact hS9 _ hdr | exact hS9 _ (hdr.trans hx))
                  (first | (go_at_call 122; (with_reducible refine (HL _).mono ?_); rintro e w9 ⟨rfl, hx⟩))
                all_goals (
                  go_wp2_with fail
                  go_roundw
                  case rel => exact ⟨K2 + 1, by omega, by go_num, hnext, hB2.trans ((hdr.trans hx).mono hB2.size)⟩
                  case measure => simp [intOf]; omega)
              | false =>
                simp only [hab] at HL
                have hfr := Lib.hid (frontKR_is hs.out (by omega) (.inr ⟨z, hz2', hab⟩))
                clear hs hab hz2'
                go_wp2_with fail
                go_region_held3 (fun w' => w'.cell? ⟨g2, f2 + K2 * 19 + 7, none⟩ = some (.string (str z.e.item.name)) ∧ w'.cell? ⟨g2, f2 + K2 * 19 + 8, none⟩ = some (.string (str z.e.item.dom)) ∧ w'.cell? ⟨g2, f2 + K2 * 19 + 9, none⟩ = some (.string (str z.e.item.path)) ∧ w'.cell? ⟨we, 7, none⟩ = some (.string (str y.e.item.name)) ∧ w'.cell? ⟨we, 8, none⟩ = some (.string (str y.e.item.dom)) ∧ w'.cell? ⟨we, 9, none⟩ = some (.string (str y.e.item.path)))
                  (first | exact hS9 _ hdr | exact hS9 _ (hdr.trans hx))
                  (first | (go_at_call 122; (with_reducible refine (HL _).mono ?_); rintro e w9 ⟨rfl, hx⟩))
                all_goals (
                  have hB4 := hB2.trans ((hdr.trans hx).mono hB2.size)
                  clear hS9 hdr HL
                  go_wp2_with fail
                  refine wp_some (fun wd => Below wc.heap.size wc wd) hB4 ?_
                  clear hB4 hx hB2
                  rintro wd hBd
                  have hbd := hbc.trans (hBd.mono hbc.size)
                  have hBox : ∀ w', Below wd.heap.size wd w' → ObjAt w' we B.toList := fun w' h => hoeB w' (hBd.trans (h.mono hBd.size))
                  have hRow : ∀ w', Below wd.heap.size wd w' → RowOf encE 19 w' (some ⟨g2, f2, none⟩) K c2 P := fun w' h => hzB w' (hBd.trans (h.mono hBd.size))
                  obtain ⟨q, hal⟩ : ∃ q, (some ⟨g2, f2, none⟩ : Option Addr) = q := ⟨_, rfl⟩
                  rw [hal] at hRow
                  simp only [hal]
                  refine wp_region_held_drew (S := fun w' => ObjAt w' (we) B.toList) (by kernel_rfl) (hBox _ (Below.refl wd.heap.size wd).drew) (fun hHeld => ?_)
                  have hd0 : Below wd.heap.size wd wd.drew := (Below.refl _ wd).drew
                  generalize wd.drew = u0 at *
                  first | (refine tR (i := 1) rfl rfl ?_) | (refine tL (i := 1) (v := ?vi1) rfl ?hyi1 ?ri1; case hyi1 => (rintro w' hS; go_simp; try with_reducible rfl))
                  try simp only [gA, gB, gC, Act.put, gD, gE, gF]
                  first | (refine tR (i := 2) rfl rfl ?_) | (refine tL (i := 2) (v := ?vi2) rfl ?hyi2 ?ri2; case hyi2 => (rintro w' hS; go_simp; try with_reducible rfl))
                  try simp only [gA, gB, gC, Act.put, gD, gE, gF]
                  refine wpAnyH_take (i := 3) rfl (by kernel_rfl) (by kernel_rfl) (by kernel_rfl) (fun _ _ _ h => h) (Or.inl ⟨by rfl, fun w' hS => execSliceFront 28 43 (.tmp 53) (.tmp 54) rfl q K c2 K2 19 rfl rfl hKc9 Tryz.underlying28 Tryz.sizeOf43⟩) (by assumption) ?_
                  try simp only [gA, gB, gC, Act.put, gD, gE, gF]
                  refine wpAnyH_take (i := 5) rfl (by kernel_rfl) (by kernel_rfl) (by kernel_rfl) (fun _ _ _ h => h) (Or.inl ⟨by rfl, fun w' hS => execLoadAll 43 _ rfl (we) 19 B rfl hS Tryz.isAgg43 Tryz.sizeOf43 zB⟩) (by assumption) ?_
                  try simp only [gA, gB, gC, Act.put, gD, gE, gF]
                  first | (refine tR (i := 8) rfl rfl ?_) | (refine tL (i := 8) (v := ?vi3) rfl ?hyi3 ?ri3; case hyi3 => (rintro w' hS; go_simp; try with_reducible rfl))
                  try simp only [gA, gB, gC, Act.put, gD, gE, gF]
                  first | (refine tR (i := 9) rfl rfl ?_) | (refine tL (i := 9) (v := ?vi4) rfl ?hyi4 ?ri4; case hyi4 => (rintro w' hS; go_simp; try with_reducible rfl))
                  try simp only [gA, gB, gC, Act.put, gD, gE, gF]
                  refine wpAnyH_take (i := 10) rfl (by kernel_rfl) (by kernel_rfl) (by kernel_rfl) (fun _ _ _ h => h) (Or.inl ⟨by rfl, fun w' hS => execSliceBack 28 43 (.tmp 60) (.tmp 61) rfl q K c2 K2 19 rfl rfl hK2 Tryz.underlying28 Tryz.sizeOf43⟩) (by assumption) ?_
                  try simp only [gA, gB, gC, Act.put, gD, gE, gF]
                  refine wpAnyH_ready (rs := [0, 6]) (by kernel_rfl) (by simp) ?_
                  refine AllReadyH.cons (o := _) rfl (fun K' hK' => ?_) (AllReadyH.cons (o := _) rfl (fun K' hK' => ?_) AllReadyH.nil)
                  · go_simp
                    have tb3 := below_alloc u0 (.cells #[] 43)
                    have lt4 : u0.heap.size < (u0.alloc (.cells #[] 43)).heap.size := by simp
                    have hb2 := hd0.trans (tb3.mono hd0.size)
                    have ho5 := (OwnZ.lit encE 19 43 u0).base hd0.size
                    refine hK'.out _ _ (hBox _ hb2) (fun hHeld => ?_)
                    clear hK' K'
                    try simp only [gA, gB, gC, Act.put, gD, gE, gF]
                    generalize u0.alloc (.cells #[] 43) = u1 at *
                    refine wpAnyH_ready (rs := [4, 6]) (by kernel_rfl) (by simp) ?_
                    refine AllReadyH.cons (o := _) rfl (fun K' hK' => ?_) (AllReadyH.cons (o := _) rfl (fun K' hK' => ?_) AllReadyH.nil)
                    · refine step_append_rows encE_len (by decide) encE_one (by rfl) (.tmp 52) (.tmp 55) 28 (by rfl) 43 i0 (.agg #[.int .i64 0, .int .i64 0, .int .i64 0, .int .i64 0, .int .i64 0, .int .i64 0, .int .i64 0, .string ⟨#[]⟩, .string ⟨#[]⟩, .string ⟨#[]⟩, .string ⟨#[]⟩, .bool false, .bool false, .bool false, .bool false, .int .i64 0, .int .i64 0, .int .i64 0, .slice none 0 0]) 176 Tryz.underlying28 hi hz0 hz1 hz2 rfl  ho5 rfl (row_front (hRow _ hb2) K2 hK2) rfl K2 (by omega) (by unfold maxLen; omega) (by omega) hb2.size ?_
                      intro qa9 ca10 u8 ho6 xg11 gg12 nn13
                      have hb7 := hb2.trans xg11
                      refine hK'.out _ _ (hBox _ hb7) (fun hHeld => ?_)
                      clear hK' K'
                      try simp only [gA, gB, gC, Act.put, gD, gE, gF]
                      refine wpAnyH_ready (rs := [6]) (by kernel_rfl) (by simp) ?_
                      refine AllReadyH.cons (o := _) rfl (fun K' hK' => ?_) AllReadyH.nil
                      go_simp
                      have tb16 := below_alloc u8 (.cells B 43)
                      have lt17 : u8.heap.size < (u8.alloc (.cells B 43)).heap.size := by simp
                      have hb15 := hb7.trans (tb16.mono hb7.size)
                      have hx18 := (OwnZ.new encE_len [y] B (by simpa [flatC] using lB) 1 rfl (by unfold maxLen; omega) 43 u8).row encE_len
                      have ho19 := ho6.below tb16 (Nat.le_refl _)
                      refine hK'.out _ _ (hBox _ hb15) (fun hHeld => ?_)
                      clear hK' K'
                      try simp only [gA, gB, gC, Act.put, gD, gE, gF]
                      generalize u8.alloc (.cells B 43) = u14 at *
                      refine wpAnyH_ready (rs := [7]) (by kernel_rfl) (by simp) ?_
                      refine AllReadyH.cons (o := _) rfl (fun K' hK' => ?_) AllReadyH.nil
                      refine step_append_rows encE_len (by decide) encE_one (by rfl) (.tmp 56) (.tmp 58) 28 (by rfl) 43 i0 (.agg #[.int .i64 0, .int .i64 0, .int .i64 0, .int .i64 0, .int .i64 0, .int .i64 0, .int .i64 0, .string ⟨#[]⟩, .string ⟨#[]⟩, .string ⟨#[]⟩, .string ⟨#[]⟩, .bool false, .bool false, .bool false, .bool false, .int .i64 0, .int .i64 0, .int .i64 0, .slice none 0 0]) 176 Tryz.underlying28 hi hz0 hz1 hz2 rfl  ho19 rfl hx18 rfl (K2 + 1) rfl (by unfold maxLen; omega) (by omega) hb15.size ?_
                      intro qa23 ca24 u22 ho20 xg25 gg26 nn27
                      have hb21 := hb15.trans xg25
                      refine hK'.out _ _ (hBox _ hb21) (fun hHeld => ?_)
                      clear hK' K'
                      try simp only [gA, gB, gC, Act.put, gD, gE, gF]
                      refine wpAnyH_ready (rs := [11]) (by kernel_rfl) (by simp) ?_
                      refine AllReadyH.cons (o := _) rfl (fun K' hK' => ?_) AllReadyH.nil
                      refine step_append_rows encE_len (by decide) encE_one (by rfl) (.tmp 59) (.tmp 62) 28 (by rfl) 43 i0 (.agg #[.int .i64 0, .int .i64 0, .int .i64 0, .int .i64 0, .int .i64 0, .int .i64 0, .int .i64 0, .string ⟨#[]⟩, .string ⟨#[]⟩, .string ⟨#[]⟩, .string ⟨#[]⟩, .bool false, .bool false, .bool false, .bool false, .int .i64 0, .int .i64 0, .int .i64 0, .slice none 0 0]) 176 Tryz.underlying28 hi hz0 hz1 hz2 rfl  ho20 rfl (row_backA (hRow _ hb21) K2 hK2) rfl (K + 1) (by omega) (by unfold maxLen; omega) (by omega) hb21.size ?_
                      intro qa31 ca32 u30 ho28 xg33 gg34 nn35
                      have hb29 := hb21.trans xg33
                      refine hK'.out _ _ (hBox _ hb29) (fun hHeld => ?_)
                      clear hK' K'
                      try simp only [gA, gB, gC, Act.put, gD, gE, gF]
                      first | (refine tR (i := 12) rfl rfl ?_) | (refine tL (i := 12) (v := ?vi5) rfl ?hyi5 ?ri5; case hyi5 => (rintro w' hS; go_simp; try with_reducible rfl))
                      try simp only [gA, gB, gC, Act.put, gD, gE, gF]
                      refine wpAnyH_done (by kernel_rfl) ?_ _
                      have hbz := hBd.trans (hb29.mono hBd.size)
                      have hlist : ((([] ++ P.take K2) ++ [y]) ++ P.drop K2) = insKR P y := by unfold insKR; rw [hfr.out]; simp
                      have HLI := Lib.hid hlist
                      clear hlist
                      go_wp2
                      go_roundw
                      case rel => exact ⟨k + 1, K + 1, ca32, qa31, insKR P y, by omega, by omega, by go_num, rfl, by rw [← HLI.out]; exact ho28.base hbd.size, by unfold Hid; rw [HST.out], hBc3.trans (hbz.mono hBc3.size)⟩
                      case measure => simp [intOf]; omega
                    · go_simp
                      have tb38 := below_alloc u1 (.cells B 43)
                      have lt39 : u1.heap.size < (u1.alloc (.cells B 43)).heap.size := by simp
                      have hb37 := hb2.trans (tb38.mono hb2.size)
                      have hx40 := (OwnZ.new encE_len [y] B (by simpa [flatC] using lB) 1 rfl (by unfold maxLen; omega) 43 u1).row encE_len
                      have ho41 := ho5.below tb38 (Nat.le_refl _)
                      refine hK'.out _ _ (hBox _ hb37) (fun hHeld => ?_)
                      clear hK' K'
                      try simp only [gA, gB, gC, Act.put, gD, gE, gF]
                      generalize u1.alloc (.cells B 43) = u36 at *
                      refine wpAnyH_ready (rs := [4]) (by kernel_rfl) (by simp) ?_
                      refine AllReadyH.cons (o := _) rfl (fun K' hK' => ?_) AllReadyH.nil
                      refine step_append_rows encE_len (by decide) encE_one (by rfl) (.tmp 52) (.tmp 55) 28 (by rfl) 43 i0 (.agg #[.int .i64 0, .int .i64 0, .int .i64 0, .int .i64 0, .int .i64 0, .int .i64 0, .int .i64 0, .string ⟨#[]⟩, .string ⟨#[]⟩, .string ⟨#[]⟩, .string ⟨#[]⟩, .bool false, .bool false, .bool false, .bool false, .int .i64 0, .int .i64 0, .int .i64 0, .slice none 0 0]) 176 Tryz.underlying28 hi hz0 hz1 hz2 rfl  ho41 rfl (row_front (hRow _ hb37) K2 hK2) rfl K2 (by omega) (by unfold maxLen; omega) (by omega) hb37.size ?_
                      intro qa45 ca46 u44 ho42 xg47 gg48 nn49
                      have hb43 := hb37.trans xg47
                      have hx50 := row_grown hx40 gg48 (fun z hz => by cases hz; intro y hy; cases hy; exact (Nat.ne_of_lt lt4))
                      refine hK'.out _ _ (hBox _ hb43) (fun hHeld => ?_)
                      clear hK' K'
                      try simp only [gA, gB, gC, Act.put, gD, gE, gF]
                      refine wpAnyH_ready (rs := [7]) (by kernel_rfl) (by simp) ?_
                      refine AllReadyH.cons (o := _) rfl (fun K' hK' => ?_) AllReadyH.nil
                      refine step_append_rows encE_len (by decide) encE_one (by rfl) (.tmp 56) (.tmp 58) 28 (by rfl) 43 i0 (.agg #[.int .i64 0, .int .i64 0, .int .i64 0, .int .i64 0, .int .i64 0, .int .i64 0, .int .i64 0, .string ⟨#[]⟩, .string ⟨#[]⟩, .string ⟨#[]⟩, .string ⟨#[]⟩, .bool false, .bool false, .bool false, .bool false, .int .i64 0, .int .i64 0, .int .i64 0, .slice none 0 0]) 176 Tryz.underlying28 hi hz0 hz1 hz2 rfl  ho42 rfl hx50 rfl (K2 + 1) rfl (by unfold maxLen; omega) (by omega) hb43.size ?_
                      intro qa54 ca55 u53 ho51 xg56 gg57 nn58
                      have hb52 := hb43.trans xg56
                      refine hK'.out _ _ (hBox _ hb52) (fun hHeld => ?_)
                      clear hK' K'
                      try simp only [gA, gB, gC, Act.put, gD, gE, gF]
                      refine wpAnyH_ready (rs := [11]) (by kernel_rfl) (by simp) ?_
                      refine AllReadyH.cons (o := _) rfl (fun K' hK' => ?_) AllReadyH.nil
                      refine step_append_rows encE_len (by decide) encE_one (by rfl) (.tmp 59) (.tmp 62) 28 (by rfl) 43 i0 (.agg #[.int .i64 0, .int .i64 0, .int .i64 0, .int .i64 0, .int .i64 0, .int .i64 0, .int .i64 0, .string ⟨#[]⟩, .string ⟨#[]⟩, .string ⟨#[]⟩, .string ⟨#[]⟩, .bool false, .bool false, .bool false, .bool false, .int .i64 0, .int .i64 0, .int .i64 0, .slice none 0 0]) 176 Tryz.underlying28 hi hz0 hz1 hz2 rfl  ho51 rfl (row_backA (hRow _ hb52) K2 hK2) rfl (K + 1) (by omega) (by unfold maxLen; omega) (by omega) hb52.size ?_
                      intro qa62 ca63 u61 ho59 xg64 gg65 nn66
                      have hb60 := hb52.trans xg64
                      refine hK'.out _ _ (hBox _ hb60) (fun hHeld => ?_)
                      clear hK' K'
                      try simp only [gA, gB, gC, Act.put, gD, gE, gF]
                      first | (refine tR (i := 12) rfl rfl ?_) | (refine tL (i := 12) (v := ?vi6) rfl ?hyi6 ?ri6; case hyi6 => (rintro w' hS; go_simp; try with_reducible rfl))
                      try simp only [gA, gB, gC, Act.put, gD, gE, gF]
                      refine wpAnyH_done (by kernel_rfl) ?_ _
                      have hbz := hBd.trans (hb60.mono hBd.size)
                      have hlist : ((([] ++ P.take K2) ++ [y]) ++ P.drop K2) = insKR P y := by unfold insKR; rw [hfr.out]; simp
                      have HLI := Lib.hid hlist
                      clear hlist
                      go_wp2
                      go_roundw
                      case rel => exact ⟨k + 1, K + 1, ca63, qa62, insKR P y, by omega, by omega, by go_num, rfl, by rw [← HLI.out]; exact ho59.base hbd.size, by unfold Hid; rw [HST.out], hBc3.trans (hbz.mono hBc3.size)⟩
                      case measure => simp [intOf]; omega
                  · go_simp
                    have tb69 := below_alloc u0 (.cells B 43)
                    have lt70 : u0.heap.size < (u0.alloc (.cells B 43)).heap.size := by simp
                    have hb68 := hd0.trans (tb69.mono hd0.size)
                    have hx71 := (OwnZ.new encE_len [y] B (by simpa [flatC] using lB) 1 rfl (by unfold maxLen; omega) 43 u0).row encE_len
                    refine hK'.out _ _ (hBox _ hb68) (fun hHeld => ?_)
                    clear hK' K'
                    try simp only [gA, gB, gC, Act.put, gD, gE, gF]
                    generalize u0.alloc (.cells B 43) = u67 at *
                    refine wpAnyH_ready (rs := [0]) (by kernel_rfl) (by simp) ?_
                    refine AllReadyH.cons (o := _) rfl (fun K' hK' => ?_) AllReadyH.nil
                    go_simp
                    have tb74 := below_alloc u67 (.cells #[] 43)
                    have lt75 : u67.heap.size < (u67.alloc (.cells #[] 43)).heap.size := by simp
                    have hb73 := hb68.trans (tb74.mono hb68.size)
                    have ho76 := (OwnZ.lit encE 19 43 u67).base hb68.size
                    have hx77 := hx71.below tb74
                    refine hK'.out _ _ (hBox _ hb73) (fun hHeld => ?_)
                    clear hK' K'
                    try simp only [gA, gB, gC, Act.put, gD, gE, gF]
                    generalize u67.alloc (.cells #[] 43) = u72 at *
                    refine wpAnyH_ready (rs := [4]) (by kernel_rfl) (by simp) ?_
                    refine AllReadyH.cons (o := _) rfl (fun K' hK' => ?_) AllReadyH.nil
                    refine step_append_rows encE_len (by decide) encE_one (by rfl) (.tmp 52) (.tmp 55) 28 (by rfl) 43 i0 (.agg #[.int .i64 0, .int .i64 0, .int .i64 0, .int .i64 0, .int .i64 0, .int .i64 0, .int .i64 0, .string ⟨#[]⟩, .string ⟨#[]⟩, .string ⟨#[]⟩, .string ⟨#[]⟩, .bool false, .bool false, .bool false, .bool false, .int .i64 0, .int .i64 0, .int .i64 0, .slice none 0 0]) 176 Tryz.underlying28 hi hz0 hz1 hz2 rfl  ho76 rfl (row_front (hRow _ hb73) K2 hK2) rfl K2 (by omega) (by unfold maxLen; omega) (by omega) hb73.size ?_
                    intro qa81 ca82 u80 ho78 xg83 gg84 nn85
                    have hb79 := hb73.trans xg83
                    have hx86 := row_grown hx77 gg84 (fun z hz => by cases hz; intro y hy; cases hy; exact (Nat.ne_of_gt lt70))
                    refine hK'.out _ _ (hBox _ hb79) (fun hHeld => ?_)
                    clear hK' K'
                    try simp only [gA, gB, gC, Act.put, gD, gE, gF]
                    refine wpAnyH_ready (rs := [7]) (by kernel_rfl) (by simp) ?_
                    refine AllReadyH.cons (o := _) rfl (fun K' hK' => ?_) AllReadyH.nil
                    refine step_append_rows encE_len (by decide) encE_one (by rfl) (.tmp 56) (.tmp 58) 28 (by rfl) 43 i0 (.agg #[.int .i64 0, .int .i64 0, .int .i64 0, .int .i64 0, .int .i64 0, .int .i64 0, .int .i64 0, .string ⟨#[]⟩, .string ⟨#[]⟩, .string ⟨#[]⟩, .string ⟨#[]⟩, .bool false, .bool false, .bool false, .bool false, .int .i64 0, .int .i64 0, .int .i64 0, .slice none 0 0]) 176 Tryz.underlying28 hi hz0 hz1 hz2 rfl  ho78 rfl hx86 rfl (K2 + 1) rfl (by unfold maxLen; omega) (by omega) hb79.size ?_
                    intro qa90 ca91 u89 ho87 xg92 gg93 nn94
                    have hb88 := hb79.trans xg92
                    refine hK'.out _ _ (hBox _ hb88) (fun hHeld => ?_)
                    clear hK' K'
                    try simp only [gA, gB, gC, Act.put, gD, gE, gF]
                    refine wpAnyH_ready (rs := [11]) (by kernel_rfl) (by simp) ?_
                    refine AllReadyH.cons (o := _) rfl (fun K' hK' => ?_) AllReadyH.nil
                    refine step_append_rows encE_len (by decide) encE_one (by rfl) (.tmp 59) (.tmp 62) 28 (by rfl) 43 i0 (.agg #[.int .i64 0, .int .i64 0, .int .i64 0, .int .i64 0, .int .i64 0, .int .i64 0, .int .i64 0, .string ⟨#[]⟩, .string ⟨#[]⟩, .string ⟨#[]⟩, .string ⟨#[]⟩, .bool false, .bool false, .bool false, .bool false, .int .i64 0, .int .i64 0, .int .i64 0, .slice none 0 0]) 176 Tryz.underlying28 hi hz0 hz1 hz2 rfl  ho87 rfl (row_backA (hRow _ hb88) K2 hK2) rfl (K + 1) (by omega) (by unfold maxLen; omega) (by omega) hb88.size ?_
                    intro qa98 ca99 u97 ho95 xg100 gg101 nn102
                    have hb96 := hb88.trans xg100
                    refine hK'.out _ _ (hBox _ hb96) (fun hHeld => ?_)
                    clear hK' K'
                    try simp only [gA, gB, gC, Act.put, gD, gE, gF]
                    first | (refine tR (i := 12) rfl rfl ?_) | (refine tL (i := 12) (v := ?vi7) rfl ?hyi7 ?ri7; case hyi7 => (rintro w' hS; go_simp; try with_reducible rfl))
                    try simp only [gA, gB, gC, Act.put, gD, gE, gF]
                    refine wpAnyH_done (by kernel_rfl) ?_ _
                    have hbz := hBd.trans (hb96.mono hBd.size)
                    have hlist : ((([] ++ P.take K2) ++ [y]) ++ P.drop K2) = insKR P y := by unfold insKR; rw [hfr.out]; simp
                    have HLI := Lib.hid hlist
                    clear hlist
                    go_wp2
                    go_roundw
                    case rel => exact ⟨k + 1, K + 1, ca99, qa98, insKR P y, by omega, by omega, by go_num, rfl, by rw [← HLI.out]; exact ho95.base hbd.size, by unfold Hid; rw [HST.out], hBc3.trans (hbz.mono hBc3.size)⟩
                    case measure => simp [intOf]; omega)
            · obtain rfl : K2 = K := by omega
              have hfr := Lib.hid (frontKR_is hs.out (by omega) (.inl hPl.symm))
              have hd' : decide ((K2 : Int) < (K2 : Int)) = false := decide_eq_false (by omega)
              have hd2 : ¬ (K2 : Int) < (K2 : Int) := by omega
              clear hs
              go_wp2_with fail
              go_quiet (fail)
              go_wp2_with fail
              refine wp_some (fun wd => Below wc.heap.size wc wd) (below_drawn2 hB2 _) ?_
              clear hB2 hd' hd2
              rintro wd hBd
              have hbd := hbc.trans (hBd.mono hbc.size)
              have hBox : ∀ w', Below wd.heap.size wd w' → ObjAt w' we B.toList := fun w' h => hoeB w' (hBd.trans (h.mono hBd.size))
              have hRow : ∀ w', Below wd.heap.size wd w' → RowOf encE 19 w' q K2 c2 P := fun w' h => hzB w' (hBd.trans (h.mono hBd.size))
              refine wp_region_held_drew (S := fun w' => ObjAt w' (we) B.toList) (by kernel_rfl) (hBox _ (Below.refl wd.heap.size wd).drew) (fun hHeld => ?_)
              have hd0 : Below wd.heap.size wd wd.drew := (Below.refl _ wd).drew
              generalize wd.drew = u0 at *
              first | (refine tR (i := 1) rfl rfl ?_) | (refine tL (i := 1) (v := ?vi8) rfl ?hyi8 ?ri8; case hyi8 => (rintro w' hS; go_simp; try with_reducible rfl))
              try simp only [gA, gB, gC, Act.put, gD, gE, gF]
              first | (refine tR (i := 2) rfl rfl ?_) | (refine tL (i := 2) (v := ?vi9) rfl ?hyi9 ?ri9; case hyi9 => (rintro w' hS; go_simp; try with_reducible rfl))
              try simp only [gA, gB, gC, Act.put, gD, gE, gF]
              refine wpAnyH_take (i := 3) rfl (by kernel_rfl) (by kernel_rfl) (by kernel_rfl) (fun _ _ _ h => h) (Or.inl ⟨by rfl, fun w' hS => execSliceFront 28 43 (.tmp 53) (.tmp 54) rfl q K2 c2 K2 19 rfl rfl hKc9 Tryz.underlying28 Tryz.sizeOf43⟩) (by assumption) ?_
              try simp only [gA, gB, gC, Act.put, gD, gE, gF]
              refine wpAnyH_take (i := 5) rfl (by kernel_rfl) (by kernel_rfl) (by kernel_rfl) (fun _ _ _ h => h) (Or.inl ⟨by rfl, fun w' hS => execLoadAll 43 _ rfl (we) 19 B rfl hS Tryz.isAgg43 Tryz.sizeOf43 zB⟩) (by assumption) ?_
              try simp only [gA, gB, gC, Act.put, gD, gE, gF]
              first | (refine tR (i := 8) rfl rfl ?_) | (refine tL (i := 8) (v := ?vi10) rfl ?hyi10 ?ri10; case hyi10 => (rintro w' hS; go_simp; try with_reducible rfl))
              try simp only [gA, gB, gC, Act.put, gD, gE, gF]
              first | (refine tR (i := 9) rfl rfl ?_) | (refine tL (i := 9) (v := ?vi11) rfl ?hyi11 ?ri11; case hyi11 => (rintro w' hS; go_simp; try with_reducible rfl))
              try simp only [gA, gB, gC, Act.put, gD, gE, gF]
              refine wpAnyH_take (i := 10) rfl (by kernel_rfl) (by kernel_rfl) (by kernel_rfl) (fun _ _ _ h => h) (Or.inl ⟨by rfl, fun w' hS => execSliceBack 28 43 (.tmp 60) (.tmp 61) rfl q K2 c2 K2 19 rfl rfl hK2 Tryz.underlying28 Tryz.sizeOf43⟩) (by assumption) ?_
              try simp only [gA, gB, gC, Act.put, gD, gE, gF]
              refine wpAnyH_ready (rs := [0, 6]) (by kernel_rfl) (by simp) ?_
              refine AllReadyH.cons (o := _) rfl (fun K' hK' => ?_) (AllReadyH.cons (o := _) rfl (fun K' hK' => ?_) AllReadyH.nil)
              · go_simp
                have tb3 := below_alloc u0 (.cells #[] 43)
                have lt4 : u0.heap.size < (u0.alloc (.cells #[] 43)).heap.size := by simp
                have hb2 := hd0.trans (tb3.mono hd0.size)
                have ho5 := (OwnZ.lit encE 19 43 u0).base hd0.size
                refine hK'.out _ _ (hBox _ hb2) (fun hHeld => ?_)
                clear hK' K'
                try simp only [gA, gB, gC, Act.put, gD, gE, gF]
                generalize u0.alloc (.cells #[] 43) = u1 at *
                refine wpAnyH_ready (rs := [4, 6]) (by kernel_rfl) (by simp) ?_
                refine AllReadyH.cons (o := _) rfl (fun K' hK' => ?_) (AllReadyH.cons (o := _) rfl (fun K' hK' => ?_) AllReadyH.nil)
                · refine step_append_rows encE_len (by decide) encE_one (by rfl) (.tmp 52) (.tmp 55) 28 (by rfl) 43 i0 (.agg #[.int .i64 0, .int .i64 0, .int .i64 0, .int .i64 0, .int .i64 0, .int .i64 0, .int .i64 0, .string ⟨#[]⟩, .string ⟨#[]⟩, .string ⟨#[]⟩, .string ⟨#[]⟩, .bool false, .bool false, .bool false, .bool false, .int .i64 0, .int .i64 0, .int .i64 0, .slice none 0 0]) 176 Tryz.underlying28 hi hz0 hz1 hz2 rfl  ho5 rfl (row_front (hRow _ hb2) K2 hK2) rfl K2 (by omega) (by unfold maxLen; omega) (by omega) hb2.size ?_
                  intro qa9 ca10 u8 ho6 xg11 gg12 nn13
                  have hb7 := hb2.trans xg11
                  refine hK'.out _ _ (hBox _ hb7) (fun hHeld => ?_)
                  clear hK' K'
                  try simp only [gA, gB, gC, Act.put, gD, gE, gF]
                  refine wpAnyH_ready (rs := [6]) (by kernel_rfl) (by simp) ?_
                  refine AllReadyH.cons (o := _) rfl (fun K' hK' => ?_) AllReadyH.nil
                  go_simp
                  have tb16 := below_alloc u8 (.cells B 43)
                  have lt17 : u8.heap.size < (u8.alloc (.cells B 43)).heap.size := by simp
                  have hb15 := hb7.trans (tb16.mono hb7.size)
                  have hx18 := (OwnZ.new encE_len [y] B (by simpa [flatC] using lB) 1 rfl (by unfold maxLen; omega) 43 u8).row encE_len
                  have ho19 := ho6.below tb16 (Nat.le_refl _)
                  refine hK'.out _ _ (hBox _ hb15) (fun hHeld => ?_)
                  clear hK' K'
                  try simp only [gA, gB, gC, Act.put, gD, gE, gF]
                  generalize u8.alloc (.cells B 43) = u14 at *
                  refine wpAnyH_ready (rs := [7]) (by kernel_rfl) (by simp) ?_
                  refine AllReadyH.cons (o := _) rfl (fun K' hK' => ?_) AllReadyH.nil
                  refine step_append_rows encE_len (by decide) encE_one (by rfl) (.tmp 56) (.tmp 58) 28 (by rfl) 43 i0 (.agg #[.int .i64 0, .int .i64 0, .int .i64 0, .int .i64 0, .int .i64 0, .int .i64 0, .int .i64 0, .string ⟨#[]⟩, .string ⟨#[]⟩, .string ⟨#[]⟩, .string ⟨#[]⟩, .bool false, .bool false, .bool false, .bool false, .int .i64 0, .int .i64 0, .int .i64 0, .slice none 0 0]) 176 Tryz.underlying28 hi hz0 hz1 hz2 rfl  ho19 rfl hx18 rfl (K2 + 1) rfl (by unfold maxLen; omega) (by omega) hb15.size ?_
                  intro qa23 ca24 u22 ho20 xg25 gg26 nn27
                  have hb21 := hb15.trans xg25
                  refine hK'.out _ _ (hBox _ hb21) (fun hHeld => ?_)
                  clear hK' K'
                  try simp only [gA, gB, gC, Act.put, gD, gE, gF]
                  refine wpAnyH_ready (rs := [11]) (by kernel_rfl) (by simp) ?_
                  refine AllReadyH.cons (o := _) rfl (fun K' hK' => ?_) AllReadyH.nil
                  refine step_append_rows encE_len (by decide) encE_one (by rfl) (.tmp 59) (.tmp 62) 28 (by rfl) 43 i0 (.agg #[.int .i64 0, .int .i64 0, .int .i64 0, .int .i64 0, .int .i64 0, .int .i64 0, .int .i64 0, .string ⟨#[]⟩, .string ⟨#[]⟩, .string ⟨#[]⟩, .string ⟨#[]⟩, .bool false, .bool false, .bool false, .bool false, .int .i64 0, .int .i64 0, .int .i64 0, .slice none 0 0]) 176 Tryz.underlying28 hi hz0 hz1 hz2 rfl  ho20 rfl (row_back0 (hRow _ hb21)) rfl (K2 + 1) (by omega) (by unfold maxLen; omega) (by omega) hb21.size ?_
                  intro qa31 ca32 u30 ho28 xg33 gg34 nn35
                  have hb29 := hb21.trans xg33
                  refine hK'.out _ _ (hBox _ hb29) (fun hHeld => ?_)
                  clear hK' K'
                  try simp only [gA, gB, gC, Act.put, gD, gE, gF]
                  first | (refine tR (i := 12) rfl rfl ?_) | (refine tL (i := 12) (v := ?vi12) rfl ?hyi12 ?ri12; case hyi12 => (rintro w' hS; go_simp; try with_reducible rfl))
                  try simp only [gA, gB, gC, Act.put, gD, gE, gF]
                  refine wpAnyH_done (by kernel_rfl) ?_ _
                  have hbz := hBd.trans (hb29.mono hBd.size)
                  have hlist : ((([] ++ P.take K2) ++ [y]) ++ P.drop K2) = insKR P y := by unfold insKR; rw [hfr.out]; simp
                  have HLI := Lib.hid hlist
                  clear hlist
                  go_wp2
                  go_roundw
                  case rel => exact ⟨k + 1, K2 + 1, ca32, qa31, insKR P y, by omega, by omega, by go_num, rfl, by rw [← HLI.out]; exact ho28.base hbd.size, by unfold Hid; rw [HST.out], hBc3.trans (hbz.mono hBc3.size)⟩
                  case measure => simp [intOf]; omega
                · go_simp
                  have tb38 := below_alloc u1 (.cells B 43)
                  have lt39 : u1.heap.size < (u1.alloc (.cells B 43)).heap.size := by simp
                  have hb37 := hb2.trans (tb38.mono hb2.size)
                  have hx40 := (OwnZ.new encE_len [y] B (by simpa [flatC] using lB) 1 rfl (by unfold maxLen; omega) 43 u1).row encE_len
                  have ho41 := ho5.below tb38 (Nat.le_refl _)
                  refine hK'.out _ _ (hBox _ hb37) (fun hHeld => ?_)
                  clear hK' K'
                  try simp only [gA, gB, gC, Act.put, gD, gE, gF]
                  generalize u1.alloc (.cells B 43) = u36 at *
                  refine wpAnyH_ready (rs := [4]) (by kernel_rfl) (by simp) ?_
                  refine AllReadyH.cons (o := _) rfl (fun K' hK' => ?_) AllReadyH.nil
                  refine step_append_rows encE_len (by decide) encE_one (by rfl) (.tmp 52) (.tmp 55) 28 (by rfl) 43 i0 (.agg #[.int .i64 0, .int .i64 0, .int .i64 0, .int .i64 0, .int .i64 0, .int .i64 0, .int .i64 0, .string ⟨#[]⟩, .string ⟨#[]⟩, .string ⟨#[]⟩, .string ⟨#[]⟩, .bool false, .bool false, .bool false, .bool false, .int .i64 0, .int .i64 0, .int .i64 0, .slice none 0 0]) 176 Tryz.underlying28 hi hz0 hz1 hz2 rfl  ho41 rfl (row_front (hRow _ hb37) K2 hK2) rfl K2 (by omega) (by unfold maxLen; omega) (by omega) hb37.size ?_
                  intro qa45 ca46 u44 ho42 xg47 gg48 nn49
                  have hb43 := hb37.trans xg47
                  have hx50 := row_grown hx40 gg48 (fun z hz => by cases hz; intro y hy; cases hy; exact (Nat.ne_of_lt lt4))
                  refine hK'.out _ _ (hBox _ hb43) (fun hHeld => ?_)
                  clear hK' K'
                  try simp only [gA, gB, gC, Act.put, gD, gE, gF]
                  refine wpAnyH_ready (rs := [7]) (by kernel_rfl) (by simp) ?_
                  refine AllReadyH.cons (o := _) rfl (fun K' hK' => ?_) AllReadyH.nil
                  refine step_append_rows encE_len (by decide) encE_one (by rfl) (.tmp 56) (.tmp 58) 28 (by rfl) 43 i0 (.agg #[.int .i64 0, .int .i64 0, .int .i64 0, .int .i64 0, .int .i64 0, .int .i64 0, .int .i64 0, .string ⟨#[]⟩, .string ⟨#[]⟩, .string ⟨#[]⟩, .string ⟨#[]⟩, .bool false, .bool false, .bool false, .bool false, .int .i64 0, .int .i64 0, .int .i64 0, .slice none 0 0]) 176 Tryz.underlying28 hi hz0 hz1 hz2 rfl  ho42 rfl hx50 rfl (K2 + 1) rfl (by unfold maxLen; omega) (by omega) hb43.size ?_
                  intro qa54 ca55 u53 ho51 xg56 gg57 nn58
                  have hb52 := hb43.trans xg56
                  refine hK'.out _ _ (hBox _ hb52) (fun hHeld => ?_)
                  clear hK' K'
                  try simp only [gA, gB, gC, Act.put, gD, gE, gF]
                  refine wpAnyH_ready (rs := [11]) (by kernel_rfl) (by simp) ?_
                  refine AllReadyH.cons (o := _) rfl (fun K' hK' => ?_) AllReadyH.nil
                  refine step_append_rows encE_len (by decide) encE_one (by rfl) (.tmp 59) (.tmp 62) 28 (by rfl) 43 i0 (.agg #[.int .i64 0, .int .i64 0, .int .i64 0, .int .i64 0, .int .i64 0, .int .i64 0, .int .i64 0, .string ⟨#[]⟩, .string ⟨#[]⟩, .string ⟨#[]⟩, .string ⟨#[]⟩, .bool false, .bool false, .bool false, .bool false, .int .i64 0, .int .i64 0, .int .i64 0, .slice none 0 0]) 176 Tryz.underlying28 hi hz0 hz1 hz2 rfl  ho51 rfl (row_back0 (hRow _ hb52)) rfl (K2 + 1) (by omega) (by unfold maxLen; omega) (by omega) hb52.size ?_
                  intro qa62 ca63 u61 ho59 xg64 gg65 nn66
                  have hb60 := hb52.trans xg64
                  refine hK'.out _ _ (hBox _ hb60) (fun hHeld => ?_)
                  clear hK' K'
                  try simp only [gA, gB, gC, Act.put, gD, gE, gF]
                  first | (refine tR (i := 12) rfl rfl ?_) | (refine tL (i := 12) (v := ?vi13) rfl ?hyi13 ?ri13; case hyi13 => (rintro w' hS; go_simp; try with_reducible rfl))
                  try simp only [gA, gB, gC, Act.put, gD, gE, gF]
                  refine wpAnyH_done (by kernel_rfl) ?_ _
                  have hbz := hBd.trans (hb60.mono hBd.size)
                  have hlist : ((([] ++ P.take K2) ++ [y]) ++ P.drop K2) = insKR P y := by unfold insKR; rw [hfr.out]; simp
                  have HLI := Lib.hid hlist
                  clear hlist
                  go_wp2
                  go_roundw
                  case rel => exact ⟨k + 1, K2 + 1, ca63, qa62, insKR P y, by omega, by omega, by go_num, rfl, by rw [← HLI.out]; exact ho59.base hbd.size, by unfold Hid; rw [HST.out], hBc3.trans (hbz.mono hBc3.size)⟩
                  case measure => simp [intOf]; omega
              · go_simp
                have tb69 := below_alloc u0 (.cells B 43)
                have lt70 : u0.heap.size < (u0.alloc (.cells B 43)).heap.size := by simp
                have hb68 := hd0.trans (tb69.mono hd0.size)
                have hx71 := (OwnZ.new encE_len [y] B (by simpa [flatC] using lB) 1 rfl (by unfold maxLen; omega) 43 u0).row encE_len
                refine hK'.out _ _ (hBox _ hb68) (fun hHeld => ?_)
                clear hK' K'
                try simp only [gA, gB, gC, Act.put, gD, gE, gF]
                generalize u0.alloc (.cells B 43) = u67 at *
                refine wpAnyH_ready (rs := [0]) (by kernel_rfl) (by simp) ?_
                refine AllReadyH.cons (o := _) rfl (fun K' hK' => ?_) AllReadyH.nil
                go_simp
                have tb74 := below_alloc u67 (.cells #[] 43)
                have lt75 : u67.heap.size < (u67.alloc (.cells #[] 43)).heap.size := by simp
                have hb73 := hb68.trans (tb74.mono hb68.size)
                have ho76 := (OwnZ.lit encE 19 43 u67).base hb68.size
                have hx77 := hx71.below tb74
                refine hK'.out _ _ (hBox _ hb73) (fun hHeld => ?_)
                clear hK' K'
                try simp only [gA, gB, gC, Act.put, gD, gE, gF]
                generalize u67.alloc (.cells #[] 43) = u72 at *
                refine wpAnyH_ready (rs := [4]) (by kernel_rfl) (by simp) ?_
                refine AllReadyH.cons (o := _) rfl (fun K' hK' => ?_) AllReadyH.nil
                refine step_append_rows encE_len (by decide) encE_one (by rfl) (.tmp 52) (.tmp 55) 28 (by rfl) 43 i0 (.agg #[.int .i64 0, .int .i64 0, .int .i64 0, .int .i64 0, .int .i64 0, .int .i64 0, .int .i64 0, .string ⟨#[]⟩, .string ⟨#[]⟩, .string ⟨#[]⟩, .string ⟨#[]⟩, .bool false, .bool false, .bool false, .bool false, .int .i64 0, .int .i64 0, .int .i64 0, .slice none 0 0]) 176 Tryz.underlying28 hi hz0 hz1 hz2 rfl  ho76 rfl (row_front (hRow _ hb73) K2 hK2) rfl K2 (by omega) (by unfold maxLen; omega) (by omega) hb73.size ?_
                intro qa81 ca82 u80 ho78 xg83 gg84 nn85
                have hb79 := hb73.trans xg83
                have hx86 := row_grown hx77 gg84 (fun z hz => by cases hz; intro y hy; cases hy; exact (Nat.ne_of_gt lt70))
                refine hK'.out _ _ (hBox _ hb79) (fun hHeld => ?_)
                clear hK' K'
                try simp only [gA, gB, gC, Act.put, gD, gE, gF]
                refine wpAnyH_ready (rs := [7]) (by kernel_rfl) (by simp) ?_
                refine AllReadyH.cons (o := _) rfl (fun K' hK' => ?_) AllReadyH.nil
                refine step_append_rows encE_len (by decide) encE_one (by rfl) (.tmp 56) (.tmp 58) 28 (by rfl) 43 i0 (.agg #[.int .i64 0, .int .i64 0, .int .i64 0, .int .i64 0, .int .i64 0, .int .i64 0, .int .i64 0, .string ⟨#[]⟩, .string ⟨#[]⟩, .string ⟨#[]⟩, .string ⟨#[]⟩, .bool false, .bool false, .bool false, .bool false, .int .i64 0, .int .i64 0, .int .i64 0, .slice none 0 0]) 176 Tryz.underlying28 hi hz0 hz1 hz2 rfl  ho78 rfl hx86 rfl (K2 + 1) rfl (by unfold maxLen; omega) (by omega) hb79.size ?_
                intro qa90 ca91 u89 ho87 xg92 gg93 nn94
                have hb88 := hb79.trans xg92
                refine hK'.out _ _ (hBox _ hb88) (fun hHeld => ?_)
                clear hK' K'
                try simp only [gA, gB, gC, Act.put, gD, gE, gF]
                refine wpAnyH_ready (rs := [11]) (by kernel_rfl) (by simp) ?_
                refine AllReadyH.cons (o := _) rfl (fun K' hK' => ?_) AllReadyH.nil
                refine step_append_rows encE_len (by decide) encE_one (by rfl) (.tmp 59) (.tmp 62) 28 (by rfl) 43 i0 (.agg #[.int .i64 0, .int .i64 0, .int .i64 0, .int .i64 0, .int .i64 0, .int .i64 0, .int .i64 0, .string ⟨#[]⟩, .string ⟨#[]⟩, .string ⟨#[]⟩, .string ⟨#[]⟩, .bool false, .bool false, .bool false, .bool false, .int .i64 0, .int .i64 0, .int .i64 0, .slice none 0 0]) 176 Tryz.underlying28 hi hz0 hz1 hz2 rfl  ho87 rfl (row_back0 (hRow _ hb88)) rfl (K2 + 1) (by omega) (by unfold maxLen; omega) (by omega) hb88.size ?_
                intro qa98 ca99 u97 ho95 xg100 gg101 nn102
                have hb96 := hb88.trans xg100
                refine hK'.out _ _ (hBox _ hb96) (fun hHeld => ?_)
                clear hK' K'
                try simp only [gA, gB, gC, Act.put, gD, gE, gF]
                first | (refine tR (i := 12) rfl rfl ?_) | (refine tL (i := 12) (v := ?vi14) rfl ?hyi14 ?ri14; case hyi14 => (rintro w' hS; go_simp; try with_reducible rfl))
                try simp only [gA, gB, gC, Act.put, gD, gE, gF]
                refine wpAnyH_done (by kernel_rfl) ?_ _
                have hbz := hBd.trans (hb96.mono hBd.size)
                have hlist : ((([] ++ P.take K2) ++ [y]) ++ P.drop K2) = insKR P y := by unfold insKR; rw [hfr.out]; simp
                have HLI := Lib.hid hlist
                clear hlist
                go_wp2
                go_roundw
                case rel => exact ⟨k + 1, K2 + 1, ca99, qa98, insKR P y, by omega, by omega, by go_num, rfl, by rw [← HLI.out]; exact ho95.base hbd.size, by unfold Hid; rw [HST.out], hBc3.trans (hbz.mono hBc3.size)⟩
                case measure => simp [intOf]; omega
    · obtain rfl : nl = k := by omega
      have e0 : P = L.foldl (winStepR m) [] := by
        rw [hP.out, List.take_of_length_le (by omega)]
      have HE := Lib.hid e0
      clear e0
      go_wp2
      go_ret
      exact ⟨q, K, c2, rfl, by rw [← HE.out]; exact hz, hb⟩
end Go.Proofs.YtaodjnkjjmhecaaGreatDoor
