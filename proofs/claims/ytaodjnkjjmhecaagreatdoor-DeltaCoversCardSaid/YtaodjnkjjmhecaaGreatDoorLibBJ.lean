/- Contracts and plain words that the laws' proofs stand on. -/
import Derived.Test.YtaodjnkjjmhecaaGreatDoorLibAO
import Derived.Test.YtaodjnkjjmhecaaGreatDoorLibAX
import Derived.Test.YtaodjnkjjmhecaaGreatDoorLibBK
namespace Go.Proofs.YtaodjnkjjmhecaaGreatDoor
open Go.RowKit
set_option linter.unusedVariables false
theorem vOfNo (a : Option Addr) (n c : Nat) (L : List DotN) (w : World) (hL : RowOf encD 3 w a n c L) (hF : ∀ x ∈ L, FitD x) (h : ¬ checkV L = 0) :
    Calls Tryz.prog 96 #[.slice a n c] w fun e w' => e = .returned (.tuple #[.pointer none, .int .i64 (checkV L)]) ∧ Below w.heap.size w w' := by
  have HC := vCheckC a n c L w hL hF
  generalize checkV L = E at *
  have h1 : (E == 0) = false := beq_eq_false_iff_ne.2 h
  have h2 : (E != 0) = true := by simp [h]
  clear h
  go_enter Tryz.func96, Tryz.ntmps96
  go_wp2_with (go_at_call 104; (with_reducible refine HC.mono ?_); rintro e w1 ⟨rfl, hx⟩)
  go_ret2
  exact ⟨rfl, hx⟩
end Go.Proofs.YtaodjnkjjmhecaaGreatDoor
namespace Go.Proofs.YtaodjnkjjmhecaaGreatDoor
open Go.RowKit Go.Lib
set_option linter.unusedVariables false
set_option linter.unusedSimpArgs false
set_option maxRecDepth 100000 in
set_option maxHeartbeats 2000000 in
theorem indexMarkC (gf : Nat) (lb : Array Value) (Q : DotN → Bool) (a : Option Addr) (n c : Nat) (L : List DotN) (w : World) (hL : RowOf encD 3 w a n c L) (eg : ∀ args w, (callFunc gf args).run Tryz.prog w = .ok (.enter gf args) w)
    (hH : ∀ x ∈ L, ∀ v, Below w.heap.size w v → Calls Tryz.prog gf (#[.agg #[.int .i64 x.dev, .int .i64 x.inc, .int .i64 x.seq]] ++ lb) v fun e w' => e = .returned (.bool (Q x)) ∧ Below v.heap.size v w') :
    Calls Tryz.prog 175 #[.slice a n c, .func (.func gf) #[] lb] w fun e w' => ∃ k : Int, e = .returned (.int .i64 k) ∧ decide (0 ≤ k) = L.any Q ∧ Below w.heap.size w w' := by
  have hcm := hL.capm
  have hcl := hL.cle
  have hlq := hL.leq
  unfold maxLen at hcm
  have HL : Hid _ := hL
  have HH : Hid _ := hH
  clear hL hH
  go_enter Tryz.func175, Tryz.ntmps175
  go_wp2
  go_loopw [8] (fun s wr => ∃ k : Nat, k ≤ n ∧ s = .int .i64 (k : Int) ∧ Hid ((L.take k).any Q = false) ∧ Below w.heap.size w wr) (fun s _ => n - (intOf s).toNat)
  case atStart => exact ⟨0, Nat.zero_le _, rfl, rfl, Below.refl _ _⟩
  case round =>
    obtain ⟨k, hk, rfl, hq, hb⟩ := hrel
    by_cases hlt : k < n
    · have hlt' : (k : Int) < (n : Int) := by omega
      obtain ⟨x, g, off, hx, rfl, u0, u1, u2⟩ := dot_at (HL.out.below hb) k hlt
      have hc := HH.out x (List.mem_of_getElem? hx) wr hb
      have hst : Hid ((L.take (k + 1)).any Q = ((L.take k).any Q || Q x)) := by show _ = _; rw [take_snocI hx, List.any_append]; simp
      have hal : Hid (Q x = true → L.any Q = true) := fun h => List.any_eq_true.2 ⟨x, List.mem_of_getElem? hx, h⟩
      generalize Q x = b at *
      cases b with
      | true =>
        go_wp2_with (go_at_fn gf; (refine hc.mono ?_); rintro e w2 ⟨rfl, h2⟩)
        go_ret
        exact ⟨k, rfl, by rw [show L.any Q = true from hal.out (by trivial)]; exact decide_eq_true (by omega), hb.trans (h2.mono hb.size)⟩
      | false =>
        go_wp2_with (go_at_fn gf; (refine hc.mono ?_); rintro e w2 ⟨rfl, h2⟩)
        go_roundw
        case rel => exact ⟨k + 1, by omega, by go_num, (show Hid _ from by show _ = _; rw [hst.out, hq.out]; rfl), hb.trans (h2.mono hb.size)⟩
        case measure => simp [intOf]; omega
    · obtain rfl : k = n := by omega
      go_wp2
      go_ret
      refine ⟨-1, rfl, ?_, hb⟩
      have := hq.out
      rw [List.take_of_length_le (by omega)] at this
      rw [this]
      rfl
set_option maxRecDepth 100000 in
theorem containsMarkC (gf : Nat) (lb : Array Value) (Q : DotN → Bool) (a : Option Addr) (n c : Nat) (L : List DotN) (w : World) (hL : RowOf encD 3 w a n c L) (eg : ∀ args w, (callFunc gf args).run Tryz.prog w = .ok (.enter gf args) w)
    (hH : ∀ x ∈ L, ∀ v, Below w.heap.size w v → Calls Tryz.prog gf (#[.agg #[.int .i64 x.dev, .int .i64 x.inc, .int .i64 x.seq]] ++ lb) v fun e w' => e = .returned (.bool (Q x)) ∧ Below v.heap.size v w') :
    Calls Tryz.prog 142 #[.slice a n c, .func (.func gf) #[] lb] w fun e w' => e = .returned (.bool (L.any Q)) ∧ Below w.heap.size w w' := by
  have HI := indexMarkC gf lb Q a n c L w hL eg hH
  generalize L.any Q = B at *
  clear hH hL
  go_enter Tryz.func142, Tryz.ntmps142
  go_wp2_with (go_at_call 175; (with_reducible refine HI.mono ?_); rintro e w1 ⟨k, rfl, hkb, hx⟩)
  go_ret
  exact ⟨by rw [← hkb]; rfl, hx⟩
set_option maxRecDepth 100000 in
set_option maxHeartbeats 1000000 in
theorem beyondFnC (f : Nat) (rv : Value) (G : DotN → Bool) (x : DotN) (bx : Nat) (w : World) (hbx : w.cell? ⟨bx, 0, none⟩ = some (.func (.func f) #[rv] #[])) (eg : ∀ args w, (callFunc f args).run Tryz.prog w = .ok (.enter f args) w)
    (hH : ∀ v, Below w.heap.size w v → Calls Tryz.prog f #[rv, .agg #[.int .i64 x.dev, .int .i64 x.inc, .int .i64 x.seq]] v fun e w' => e = .returned (.bool (G x)) ∧ Below v.heap.size v w') :
    Calls Tryz.prog 143 #[.agg #[.int .i64 x.dev, .int .i64 x.inc, .int .i64 x.seq], .pointer (some ⟨bx, 0, none⟩)] w fun e w' => e = .returned (.bool (!G x)) ∧ Below w.heap.size w w' := by
  have b1 := below_alloc w (.cells #[.int .i64 x.dev, .int .i64 x.inc, .int .i64 x.seq] 149)
  have o1 := ObjAt.new w #[.int .i64 x.dev, .int .i64 x.inc, .int .i64 x.seq] 149
  obtain ⟨B, hB⟩ : ∃ B, w.heap.size = B := ⟨_, rfl⟩
  rw [hB] at o1
  generalize hw1 : w.alloc (.cells #[.int .i64 x.dev, .int .i64 x.inc, .int .i64 x.seq] 149) = w1 at *
  have hc := hH w1 b1
  have c0 := (b1.cell (p := ⟨bx, 0, none⟩) (cell_lt hbx)).trans hbx
  have u0 := o1.cell 0 rfl; have u1 := o1.cell 1 rfl; have u2 := o1.cell 2 rfl
  generalize G x = b at *
  clear hH hbx
  go_enter Tryz.func143, Tryz.ntmps143
  go_wp2_with (go_at_fn f; (refine hc.mono ?_); rintro e w2 ⟨rfl, h2⟩)
  go_ret
  exact ⟨rfl, b1.trans (h2.mono b1.size)⟩
set_option maxRecDepth 100000 in
theorem goBeyondC (f : Nat) (rv : Value) (G : DotN → Bool) (a : Option Addr) (n c : Nat) (L : List DotN) (w : World) (hL : RowOf encD 3 w a n c L) (eg : ∀ args w, (callFunc f args).run Tryz.prog w = .ok (.enter f args) w)
    (hH : ∀ x ∈ L, ∀ v, Below w.heap.size w v → Calls Tryz.prog f #[rv, .agg #[.int .i64 x.dev, .int .i64 x.inc, .int .i64 x.seq]] v fun e w' => e = .returned (.bool (G x)) ∧ Below v.heap.size v w') :
    Calls Tryz.prog 103 #[.slice a n c, .func (.func f) #[rv] #[]] w fun e w' => e = .returned (.bool (L.any fun x => !G x)) ∧ Below w.heap.size w w' := by
  have b1 := below_alloc w (.cells #[.func (.func f) #[rv] #[]] 53)
  have o1 := ObjAt.new w #[.func (.func f) #[rv] #[]] 53
  have HC := containsMarkC 143 #[.pointer (some ⟨w.heap.size, 0, none⟩)] (fun x => !G x) a n c L _ (hL.below b1) (enters_of Tryz.func143 (by kernel_rfl) rfl)
    (fun x hx v hv => beyondFnC f rv G x w.heap.size v ((o1.below hv o1.lt).cell 0 rfl) eg fun v' hv' => hH x hx v' ((b1.trans (hv.mono b1.size)).trans (hv'.mono (Nat.le_trans b1.size hv.size))))
  generalize (L.any fun x => !G x) = B at *
  clear hH hL
  generalize hw1 : w.alloc (.cells #[.func (.func f) #[rv] #[]] 53) = w1 at *
  obtain ⟨K, hK⟩ : ∃ K, w.heap.size = K := ⟨_, rfl⟩
  rw [hK] at HC o1
  have u0 := o1.cell 0 rfl
  go_enter Tryz.func103, Tryz.ntmps103
  go_wp2_with (go_at_call 142; (with_reducible refine HC.mono ?_); rintro e w2 ⟨rfl, h2⟩)
  go_ret
  exact ⟨rfl, b1.trans (h2.mono b1.size)⟩
end Go.Proofs.YtaodjnkjjmhecaaGreatDoor
namespace Go.Proofs.YtaodjnkjjmhecaaGreatDoor
set_option linter.unusedVariables false
def mergeStep (s : MapN × Int × Int) (e : EventN) : MapN × Int × Int := ((applyM s.1 e).1, s.2.1 + (if (applyM s.1 e).2.1 = true then 1 else 0), if s.2.2 = 0 then (applyM s.1 e).2.2 else s.2.2)
def mergeM (m : MapN) (l : List EventN) : MapN × Int × Int := l.foldl mergeStep (m, 0, 0)
theorem merge_run : ∀ (l : List EventN) (s : MapN × Int × Int), (l.foldl mergeStep s).1 = runM s.1 l
  | [], _ => rfl
  | e :: t, s => merge_run t _
end Go.Proofs.YtaodjnkjjmhecaaGreatDoor
namespace Go.Proofs.YtaodjnkjjmhecaaGreatDoor
open Go.RowKit Go.Lib
set_option linter.unusedVariables false
set_option linter.unusedSimpArgs false
def ofM (l : List DotN) (most : Int) (K : List EventN) : List EventN := if most < 0 then K.filter (fun e => !hasV l e.dot) else (K.filter fun e => !hasV l e.dot).take most.toNat
def needsM (m : MapN) (l : List DotN) : Bool := decide (checkV l = 0) && m.ctx.any fun x => !hasV l x
def behindM (m : MapN) (l : List DotN) : Bool := decide (checkV l = 0) && l.any fun x => !hasV m.ctx x
theorem ArgM.ctxFit {w : World} {v : Value} {m : MapN} (h : ArgM w v m) : ∀ x ∈ m.ctx, FitD x := by
  rcases h with ⟨-, rfl⟩ | ⟨p, B, rs, -, hR⟩
  · exact fun x hx => absurd hx List.not_mem_nil
  · exact fun x hx => right_fitD (hR.ok.ok.ctx.right x hx)
theorem ArgM.few {w : World} {v : Value} {m : MapN} (h : ArgM w v m) : m.kept.length ≤ 2048 := by
  rcases h with ⟨-, rfl⟩ | ⟨p, B, rs, -, hR⟩
  · exact Nat.zero_le _
  · exact hR.few
set_option maxRecDepth 100000 in
set_option maxHeartbeats 2000000 in
theorem dNeedsC {w : World} {v : Value} {m : MapN} (h : ArgM w v m) (a : Option Addr) (n c : Nat) (L : List DotN) (hL : RowOf encD 3 w a n c L) (hF : ∀ x ∈ L, FitD x) :
    Calls Tryz.prog 55 #[v, .slice a n c] w fun e w' => e = .returned (.bool (needsM m L)) ∧ Below w.heap.size w w' := by
  unfold needsM
  by_cases hz : checkV L = 0
  · rw [decide_eq_true hz, Bool.true_and]
    have HV := vOfYes a n c L w hL hF hz
    have HC := fun x (hx : Below w.heap.size w x) => mContextA (h.below hx)
    have hcf := h.ctxFit
    have HG : ∀ x pc mv G a1 n1 c1, ArgV x (.pointer (some ⟨pc, 0, none⟩)) mv G L → RowOf encD 3 x a1 n1 c1 m.ctx → Calls Tryz.prog 103 #[.slice a1 n1 c1, .func (.func 85) #[.pointer (some ⟨pc, 0, none⟩)] #[]] x fun e w' => e = .returned (.bool (m.ctx.any fun x => !hasV L x)) ∧ Below x.heap.size x w' := fun x pc mv G a1 n1 c1 hv hr =>
      goBeyondC 85 (.pointer (some ⟨pc, 0, none⟩)) (fun x => hasV L x) a1 n1 c1 m.ctx x hr (enters_of Tryz.func85 (by kernel_rfl) rfl) fun y hy v hv2 => vHasA (hv.below hv2) y (hcf y hy)
    generalize (m.ctx.any fun x => !hasV L x) = B at *
    clear hz hL hF h
    go_enter Tryz.func55, Tryz.ntmps55
    go_wp2_with (first
      | (go_at_call 96; (with_reducible refine HV.mono ?_); rintro e w1 ⟨pc, F, rfl, hvec, hF1, hx1⟩; obtain ⟨mv, hA1⟩ := hvec.arg)
      | (go_at_call 42; (with_reducible refine (HC _ hx1).mono ?_); rintro e w2 ⟨a2, c2, rfl, hz2, hx2⟩)
      | (go_at_call 103; (with_reducible refine (HG _ _ _ _ _ _ _ (hA1.below hx2) (hz2.row encD_len)).mono ?_); rintro e w3 ⟨rfl, hx3⟩))
    go_ret
    exact ⟨rfl, (hx1.trans (hx2.mono hx1.size)).trans (hx3.mono (hx1.trans (hx2.mono hx1.size)).size)⟩
  · rw [decide_eq_false hz, Bool.false_and]
    have HV := vOfNo a n c L w hL hF hz
    have z1 : (checkV L == 0) = false := beq_eq_false_iff_ne.2 hz
    generalize checkV L = E at *
    clear hz hL hF h
    go_enter Tryz.func55, Tryz.ntmps55
    go_wp2_with (go_at_call 96; (with_reducible refine HV.mono ?_); rintro e w1 ⟨rfl, hx1⟩)
    go_ret
    exact ⟨rfl, hx1⟩
set_option maxRecDepth 100000 in
set_option maxHeartbeats 2000000 in
theorem dBehindC {w : World} {v : Value} {m : MapN} (p : Nat) (hp : v = .pointer (some ⟨p, 0, none⟩)) (h : ArgM w v m) (a : Option Addr) (n c : Nat) (L : List DotN) (hL : RowOf encD 3 w a n c L) (hF : ∀ x ∈ L, FitD x) :
    Calls Tryz.prog 56 #[v, .slice a n c] w fun e w' => e = .returned (.bool (behindM m L)) ∧ Below w.heap.size w w' := by
  subst hp
  unfold behindM
  have HV := vCheckC a n c L w hL hF
  by_cases hz : checkV L = 0
  · rw [decide_eq_true hz, Bool.true_and]
    rw [hz] at HV
    have HG : ∀ x, Below w.heap.size w x → Calls Tryz.prog 103 #[.slice a n c, .func (.func 36) #[.pointer (some ⟨p, 0, none⟩)] #[]] x fun e w' => e = .returned (.bool (L.any fun x => !hasV m.ctx x)) ∧ Below x.heap.size x w' := fun x hx =>
      goBeyondC 36 (.pointer (some ⟨p, 0, none⟩)) (fun x => hasV m.ctx x) a n c L x (hL.below hx) (enters_of Tryz.func36 (by kernel_rfl) rfl) fun y hy v hv2 => mHasA (h.below (hx.trans (hv2.mono hx.size))) y (hF y hy)
    generalize (L.any fun x => !hasV m.ctx x) = B at *
    clear hz hL hF h
    go_enter Tryz.func56, Tryz.ntmps56
    go_wp2_with (first
      | (go_at_call 104; (with_reducible refine HV.mono ?_); rintro e w1 ⟨rfl, hx1⟩)
      | (go_at_call 103; (with_reducible refine (HG _ hx1).mono ?_); rintro e w3 ⟨rfl, hx3⟩))
    go_ret
    exact ⟨rfl, hx1.trans (hx3.mono hx1.size)⟩
  · rw [decide_eq_false hz, Bool.false_and]
    have z1 : (checkV L == 0) = false := beq_eq_false_iff_ne.2 hz
    generalize checkV L = E at *
    clear hz hL hF h
    go_enter Tryz.func56, Tryz.ntmps56
    go_wp2_with (go_at_call 104; (with_reducible refine HV.mono ?_); rintro e w1 ⟨rfl, hx1⟩)
    go_ret
    exact ⟨rfl, hx1⟩
theorem of_snoc_yes {l : List DotN} {P : List EvR} {k : Nat} {r : EvR} (hk : P[k]? = some r) (h : hasV l r.e.dot = true) : (P.take (k + 1)).filter (fun r => !hasV l r.e.dot) = (P.take k).filter fun r => !hasV l r.e.dot := by
  rw [take_snocI hk, List.filter_append]
  simp [h]
theorem of_snoc_no {l : List DotN} {P : List EvR} {k : Nat} {r : EvR} (hk : P[k]? = some r) (h : hasV l r.e.dot = false) : (P.take (k + 1)).filter (fun r => !hasV l r.e.dot) = (P.take k).filter (fun r => !hasV l r.e.dot) ++ [r] := by
  rw [take_snocI hk, List.filter_append]
  simp [h]
theorem of_map {l : List DotN} (P : List EvR) : (P.filter fun r => !hasV l r.e.dot).map (·.e) = (P.map (·.e)).filter fun e => !hasV l e.dot := by
  rw [List.filter_map]
  rfl
theorem of_stop {l : List DotN} {most : Int} {P : List EvR} {k : Nat} (h : (((P.take k).filter fun r => !hasV l r.e.dot).length : Int) = most) : ((P.take k).filter fun r => !hasV l r.e.dot).map (·.e) = ofM l most (P.map (·.e)) := by
  unfold ofM
  rw [if_neg (by omega), ← of_map, ← List.map_take]
  refine congrArg _ ?_
  have h1 : P.filter (fun r => !hasV l r.e.dot) = (P.take k).filter (fun r => !hasV l r.e.dot) ++ (P.drop k).filter fun r => !hasV l r.e.dot := by
    rw [← List.filter_append, List.take_append_drop]
  have h2 : most.toNat = ((P.take k).filter fun r => !hasV l r.e.dot).length := by omega
  rw [h1, h2, List.take_left]
theorem of_end {l : List DotN} {most : Int} {P : List EvR} (h : most < 0 ∨ ((P.filter fun r => !hasV l r.e.dot).length : Int) ≤ most) : (P.filter fun r => !hasV l r.e.dot).map (·.e) = ofM l most (P.map (·.e)) := by
  unfold ofM
  rcases h with h | h
  · rw [if_pos h, of_map]
  · rw [if_neg (by omega), ← of_map, ← List.map_take, List.take_of_length_le (by omega)]
def OfIs (K : List EventN) (w : World) (en : Ending) (w' : World) : Prop := ∃ q k c2 P, en = .returned (.tuple #[.slice q k c2, .int .i64 0]) ∧ P.map (·.e) = K ∧ OwnZ encE 19 w.heap.size 43 q k c2 P w' ∧ OversAt w' P ∧ (∀ r ∈ P, ∀ k, At (overA r) k → w.heap.size ≤ k) ∧ Below w.heap.size w w'
set_option maxRecDepth 100000 in
set_option maxHeartbeats 8000000 in
theorem dOfYes {w : World} {v : Value} {m : MapN} (p : Nat) (hp : v = .pointer (some ⟨p, 0, none⟩)) (h : ArgM w v m) (a : Option Addr) (n c : Nat) (L : List DotN) (most : Int) (hL : RowOf encD 3 w a n c L) (hF : ∀ x ∈ L, FitD x) (hz : checkV L = 0) (hkf : ∀ e ∈ m.kept, FitD e.dot) :
    Calls Tryz.prog 53 #[v, .slice a n c, .int .i64 most] w (OfIs (ofM L most m.kept) w) := by
  subst hp
  obtain ⟨i0, hi, hz0, hz1, hz2⟩ := info_parts infoEvent
  have HV := vOfYes a n c L w hL hF hz
  have HE := fun x (hx : Below w.heap.size w x) => mEventsA (h.below hx)
  unfold GivesN at HE
  have hkn := h.few
  clear hz hL hF h
  obtain ⟨Z, hZ⟩ : ∃ Z, (#[.int .i64 0, .int .i64 0, .int .i64 0, .int .i64 0, .int .i64 0, .int .i64 0, .int .i64 0, .string ⟨#[]⟩, .string ⟨#[]⟩, .string ⟨#[]⟩, .string ⟨#[]⟩, .bool false, .bool false, .bool false, .bool false, .int .i64 0, .int .i64 0, .int .i64 0, .slice none 0 0] : Array Value) = Z := ⟨_, rfl⟩
  have zZ : Z.size = 19 := by rw [← hZ]; rfl
  go_enter Tryz.func53, Tryz.ntmps53
  go_wp2_with (first
    | (go_at_call 96; (with_reducible refine HV.mono ?_); rintro e w1 ⟨pc, F, rfl, hvec, hF1, hx1⟩)
    | (go_at_call 43; (with_reducible refine (HE _ hx1).mono ?_); rintro e w2 ⟨a2, n2, c2, P, rfl, hPm, hz2', hov2, hnew2, hx2⟩))
  have hb2 := hx1.trans (hx2.mono hx1.size)
  obtain ⟨mv, hA1⟩ := hvec.arg
  have hvec2 := hA1.below hx2
  have hPf : ∀ r ∈ P, FitD r.e.dot := fun r hr => hkf _ (hPm ▸ List.mem_map.2 ⟨r, hr, rfl⟩)
  have hnw : ∀ r ∈ P, ∀ k, At (overA r) k → w.heap.size ≤ k := fun r hr k hk => Nat.le_trans hx1.size (hnew2 r hr k hk)
  have hrow := hz2'.row encE_len
  have hcap := hrow.capm; have hcle := hrow.cle; have hlq := hrow.leq
  unfold maxLen at hcap
  have hn2 : n2 ≤ 2048 := by rw [← hlq, show P.length = m.kept.length from by rw [← hPm, List.length_map]]; exact hkn
  have HPm := Lib.hid hPm
  clear HV HE hvec hA1 hF1 hz2' hnew2 hx1 hx2 hPm hkf
  go_loopw [10, 26] (fun s i wr => ∃ (k K cB : Nat) (q : Option Addr), k ≤ n2 ∧ i = .int .i64 (k : Int) ∧ s = .slice q K cB ∧ OwnZ encE 19 w2.heap.size 43 q K cB ((P.take k).filter fun r => !hasV L r.e.dot) wr ∧ Hid (most < 0 ∨ ((((P.take k).filter fun r => !hasV L r.e.dot).length : Nat) : Int) ≤ most) ∧ Below w2.heap.size w2 wr) (fun _ i _ => n2 - (intOf i).toNat)
  case atStart => exact ⟨0, 0, 0, none, Nat.zero_le _, rfl, rfl, OwnZ.none _ _ _ _ _, (show Hid _ from (Classical.em (most < 0)).imp id fun c => by simp; omega), Below.refl _ _⟩
  case round =>
    obtain ⟨k, K, cB, q, hk, rfl, rfl, hz, hle, hb⟩ := hrel
    have hKl : ((P.take k).filter fun r => !hasV L r.e.dot).length = K := hz.2.1
    by_cases hlt : k < n2
    · have hlt' : (k : Int) < (n2 : Int) := by omega
      have i1 : (0 : Int) ≤ (k : Int) := by omega
      obtain ⟨r, g1, f1, A, hk1, rfl, hA, zA, lA, cA0, kA⟩ := evr_at hrow k hlt
      have cA := kA wr hb
      have hmem := List.mem_of_getElem? hk1
      have oA : A.all (·.oneCell') = true := by rw [← hA]; exact encE_all r
      have hKn : K ≤ k := by rw [← hKl]; exact Nat.le_trans (List.length_filter_le _ _) (by rw [List.length_take]; omega)
      have b1 := below_alloc wr (.cells A 43)
      have o1 := ObjAt.new wr A 43
      have hz' := hz.below b1 (Nat.le_refl _)
      have hb1 := hb.trans (b1.mono hb.size)
      obtain ⟨v1, hv1⟩ : ∃ v1, wr.alloc (.cells A 43) = v1 := ⟨_, rfl⟩
      rw [hv1] at b1 o1 hz' hb1
      have d1 := o1
      rw [lA] at d1
      have e0 := d1.cell 0 rfl; have e1 := d1.cell 1 rfl; have e2 := d1.cell 2 rfl
      by_cases hst : (K : Int) = most
      · have hst1 : ((K : Int) == most) = true := beq_iff_eq.2 hst
        have hfin : Hid (((P.take k).filter fun r => !hasV L r.e.dot).map (·.e) = ofM L most (P.map (·.e))) := of_stop (by rw [hKl]; exact hst)
        have hsub : ∀ r ∈ (P.take k).filter (fun r => !hasV L r.e.dot), r ∈ P := fun r hr => List.mem_of_mem_take (List.mem_filter.1 hr).1
        subst hst
        clear hle hKl hA lA hk1 cA0 kA d1 e0 e1 e2 hst1
        generalize (P.take k).filter (fun r => !hasV L r.e.dot) = Bs at *
        go_wp2_with (first
          | (refine wpList_loadRow rfl 43 _ rfl g1 (f1 + k * 19) 19 A rfl cA Tryz.isAgg43 Tryz.sizeOf43 zA ?_)
          | (refine wpList_storeAll rfl 43 _ _ rfl Z A 19 rfl rfl (by kernel_rfl) zZ zA oA ?_))
        go_ret2
        exact ⟨q, K, cB, Bs, rfl, by rw [← HPm.out]; exact hfin.out, hz'.base hb2.size, fun x hx => (hov2 x (hsub x hx)).below hb1, fun x hx => hnw x (hsub x hx), hb2.trans (hb1.mono hb2.size)⟩
      · have hst1 : ((K : Int) == most) = false := beq_eq_false_iff_ne.2 hst
        have HH := fun (x : World) (hx : Below v1.heap.size v1 x) => vHasA (hvec2.below (hb1.trans (hx.mono hb1.size))) r.e.dot (hPf r hmem)
        have hB0 : Below v1.heap.size v1 v1 := Below.refl _ _
        have hl1 := o1.lt
        cases hh : hasV L r.e.dot with
        | true =>
          have hs := of_snoc_yes hk1 hh
          rw [hh] at HH
          have hle2 : Hid (most < 0 ∨ ((((P.take (k + 1)).filter fun r => !hasV L r.e.dot).length : Nat) : Int) ≤ most) := by show _ ∨ _; rw [hs]; exact hle.out
          have HS := Lib.hid hs
          clear hs hle hKl hA lA hk1 cA0 kA d1 hh
          go_wp2_with (first
            | (refine wpList_loadRow rfl 43 _ rfl g1 (f1 + k * 19) 19 A rfl cA Tryz.isAgg43 Tryz.sizeOf43 zA ?_)
            | (refine wpList_storeAll rfl 43 _ _ rfl Z A 19 rfl rfl (by kernel_rfl) zZ zA oA ?_)
            | (go_at_call 85; (with_reducible refine (HH _ hB0).mono ?_); rintro e v2 ⟨rfl, hx2⟩))
          go_roundw
          case rel => exact ⟨k + 1, K, cB, q, by omega, by go_num, rfl, by rw [HS.out]; exact hz'.below hx2 (Nat.le_refl _), hle2, hb1.trans (hx2.mono hb1.size)⟩
          case measure => simp [intOf]; omega
        | false =>
          have hs := of_snoc_no hk1 hh
          rw [hh] at HH
          have hle2 : Hid (most < 0 ∨ ((((P.take (k + 1)).filter fun r => !hasV L r.e.dot).length : Nat) : Int) ≤ most) := by
            show _ ∨ _
            rw [hs, List.length_append, hKl]
            rcases hle.out with h | h
            · exact .inl h
            · rw [hKl] at h
              exact .inr (by simp; omega)
          have HS := Lib.hid hs
          have hfold : Array.foldl (fun cs x => cs.setIfInBounds x.snd x.fst) (#[.int .i64 0, .int .i64 0, .int .i64 0, .int .i64 0, .int .i64 0, .int .i64 0, .int .i64 0, .string ⟨#[]⟩, .string ⟨#[]⟩, .string ⟨#[]⟩, .string ⟨#[]⟩, .bool false, .bool false, .bool false, .bool false, .int .i64 0, .int .i64 0, .int .i64 0, .slice none 0 0] : Array Value) A.zipIdx 0 19 = A := foldSet A _ 19 zA rfl
          clear hs hle hKl hA hk1 cA0 kA d1 hh
          generalize (P.take k).filter (fun r => !hasV L r.e.dot) = Bs at *
          clear hZ zZ
          go_wp2_with (first
            | (refine wpList_loadRow rfl 43 _ rfl g1 (f1 + k * 19) 19 A rfl cA Tryz.isAgg43 Tryz.sizeOf43 zA ?_)
            | (refine wpList_storeAll rfl 43 _ _ rfl (#[.int .i64 0, .int .i64 0, .int .i64 0, .int .i64 0, .int .i64 0, .int .i64 0, .int .i64 0, .string ⟨#[]⟩, .string ⟨#[]⟩, .string ⟨#[]⟩, .string ⟨#[]⟩, .bool false, .bool false, .bool false, .bool false, .int .i64 0, .int .i64 0, .int .i64 0, .slice none 0 0] : Array Value) A 19 rfl rfl (by kernel_rfl) rfl zA oA ?_)
            | (go_at_call 85; (with_reducible refine (HH _ hB0).mono ?_); rintro e v2 ⟨rfl, hx2⟩; have hzq := hz'.below hx2 (Nat.le_refl _); have o2 := o1.below hx2 hl1; have hbx := hb1.trans (hx2.mono hb1.size))
            | (refine wpList_loadAll rfl 43 _ rfl wr.heap.size 19 A rfl o2 Tryz.isAgg43 Tryz.sizeOf43 zA ?_)
            | (at_builtin; refine wpList_append_row1 encE_len (by decide) encE_one rfl (.tmp 39) (.tmp 41) 28 rfl 43 i0 (.agg #[.int .i64 0, .int .i64 0, .int .i64 0, .int .i64 0, .int .i64 0, .int .i64 0, .int .i64 0, .string ⟨#[]⟩, .string ⟨#[]⟩, .string ⟨#[]⟩, .string ⟨#[]⟩, .bool false, .bool false, .bool false, .bool false, .int .i64 0, .int .i64 0, .int .i64 0, .slice none 0 0]) 176 Tryz.underlying28 hi hz0 hz1 hz2 rfl hzq rfl r lA rfl (K + 1) rfl (by unfold maxLen; omega) (by omega) hbx.size ?_; intro q5 c5 w5 hz5 hx5 hg5 hn5))
          go_roundw
          case rel => exact ⟨k + 1, K + 1, c5, q5, by omega, by go_num, rfl, by rw [HS.out]; exact hz5, hle2, hbx.trans hx5⟩
          case measure => simp [intOf]; omega
    · obtain rfl : n2 = k := by omega
      rw [List.take_of_length_le (by omega)] at hz hle
      have hfin : Hid ((P.filter fun r => !hasV L r.e.dot).map (·.e) = ofM L most (P.map (·.e))) := of_end hle.out
      have hsub : ∀ r ∈ P.filter (fun r => !hasV L r.e.dot), r ∈ P := fun r hr => (List.mem_filter.1 hr).1
      clear hle hKl
      generalize P.filter (fun r => !hasV L r.e.dot) = Bs at *
      go_wp2
      go_ret2
      exact ⟨q, K, cB, Bs, rfl, by rw [← HPm.out]; exact hfin.out, hz.base hb2.size, fun x hx => (hov2 x (hsub x hx)).below hb, fun x hx => hnw x (hsub x hx), hb2.trans (hb.mono hb2.size)⟩
theorem merge_snoc {m : MapN} {P : List EvR} {k : Nat} {r : EvR} (h : P[k]? = some r) : mergeM m ((P.take (k + 1)).map (·.e)) = mergeStep (mergeM m ((P.take k).map (·.e))) r.e := by
  unfold mergeM
  rw [take_snocI h, List.map_append, List.foldl_append]
  rfl
theorem merge_map (m : MapN) (l : List EventN) : (mergeM m l).1 = runM m l := merge_run l (m, 0, 0)
theorem merge_cnt (l : List EventN) : ∀ s : MapN × Int × Int, s.2.1 ≤ (l.foldl mergeStep s).2.1 ∧ (l.foldl mergeStep s).2.1 ≤ s.2.1 + l.length := by
  induction l with
  | nil => exact fun s => ⟨Int.le_refl _, by simp⟩
  | cons e t ih =>
    intro s
    rw [List.foldl_cons]
    obtain ⟨h1, h2⟩ := ih (mergeStep s e)
    have h3 : s.2.1 ≤ (mergeStep s e).2.1 ∧ (mergeStep s e).2.1 ≤ s.2.1 + 1 := by
      show s.2.1 ≤ s.2.1 + _ ∧ s.2.1 + _ ≤ s.2.1 + 1
      split <;> omega
    rw [List.length_cons]
    omega
set_option maxRecDepth 100000 in
set_option maxHeartbeats 4000000 in
theorem mergeFnC (p b2 b6 b7 : Nat) (F R : Nat → Prop) (m : MapN) (cnt fst : Int) (r : EvR) (A : Array Value) (hA : (encE r).toArray = A) (w : World) (h : MapAt w p F R m) (o2 : ObjAt w b2 [.pointer (some ⟨p, 0, none⟩)]) (o6 : ObjAt w b6 [.int .i64 cnt]) (o7 : ObjAt w b7 [.int .i64 fst])
    (h26 : b2 ≠ b6) (h27 : b2 ≠ b7) (h67 : b6 ≠ b7) (hb : ∀ k, F k ∨ R k → k ≠ b2 ∧ k ≠ b6 ∧ k ≠ b7) (hE : RowOf encD 3 w r.a r.e.over.length r.c r.e.over) (hF : ∀ k, At (overA r) k → ¬ F k ∧ k ≠ b6 ∧ k ≠ b7) (hl : lightE r.e = true) (hTb : OTb w) (hdn : m.dead.length ≤ 900000) (hc : 0 ≤ cnt ∧ cnt ≤ 1000000) :
    Calls Tryz.prog 105 #[.agg A, .pointer (some ⟨b2, 0, none⟩), .pointer (some ⟨b6, 0, none⟩), .pointer (some ⟨b7, 0, none⟩)] w fun en w' => en = .returned (.tuple #[]) ∧ ∃ F' R', MapAt w' p F' R' (applyM m r.e).1 ∧ ObjAt w' b2 [.pointer (some ⟨p, 0, none⟩)] ∧ ObjAt w' b6 [.int .i64 (cnt + if (applyM m r.e).2.1 = true then 1 else 0)] ∧ ObjAt w' b7 [.int .i64 (if fst = 0 then (applyM m r.e).2.2 else fst)] ∧ Keeps (fun k => F k ∨ k = b6 ∨ k = b7) w w' ∧ (∀ k, F' k → F k ∨ w.heap.size ≤ k) ∧ ∀ k, R' k → R k ∨ At (overA r) k ∨ w.heap.size ≤ k := by
  have zA : A.size = 19 := by rw [← hA]; rfl
  have b1 := below_alloc w (.cells A 43)
  have o1 := ObjAt.new w A 43
  obtain ⟨B, hB⟩ : ∃ B, w.heap.size = B := ⟨_, rfl⟩
  rw [hB] at o1
  have l2 := o2.lt; have l6 := o6.lt; have l7 := o7.lt
  have h1 := h.below b1
  have q2 := o2.below b1 l2; have q6 := o6.below b1 l6; have q7 := o7.below b1 l7
  have HA := mApplyC p F R m r A hA _ h1 (hE.below b1) (fun k hk => (hF k hk).1) hl (hTb.below b1) hdn
  unfold Turns at HA
  have hs1 := b1.size
  have fb2 : ¬ F b2 := fun c => (hb b2 (.inl c)).1 rfl
  have fb6 : ¬ F b6 := fun c => (hb b6 (.inl c)).2.1 rfl
  have fb7 : ¬ F b7 := fun c => (hb b7 (.inl c)).2.2 rfl
  generalize hw1 : w.alloc (.cells A 43) = w1 at *
  have c2 := q2.cell 0 rfl
  obtain ⟨er, her⟩ : ∃ er, (applyM m r.e).2.2 = er := ⟨_, rfl⟩
  obtain ⟨ap, hap⟩ : ∃ ap, (applyM m r.e).2.1 = ap := ⟨_, rfl⟩
  rw [her, hap] at HA ⊢
  generalize (applyM m r.e).1 = m2 at *
  have FIN : ∀ (w2 : World) F' R', MapAt w2 p F' R' m2 → Keeps F w1 w2 → (∀ k, F' k → F k ∨ w1.heap.size ≤ k) → (∀ k, R' k → R k ∨ At (overA r) k ∨ w1.heap.size ≤ k) → ObjAt w2 b2 [.pointer (some ⟨p, 0, none⟩)] ∧ ObjAt w2 b6 [.int .i64 cnt] ∧ ObjAt w2 b7 [.int .i64 fst] ∧ Keeps (fun k => F k ∨ k = b6 ∨ k = b7) w w2 ∧ (∀ k, F' k ∨ R' k → k ≠ b6 ∧ k ≠ b7) ∧ (∀ k, F' k → F k ∨ w.heap.size ≤ k) ∧ ∀ k, R' k → R k ∨ At (overA r) k ∨ w.heap.size ≤ k := fun w2 F' R' hm hk h3 h4 => by
    refine ⟨q2.keeps hk fb2, q6.keeps hk fb6, q7.keeps hk fb7, (Keeps.new b1).trans hk fun _ _ q => .inl q, fun k hk2 => ?_, fun k hk2 => (h3 k hk2).imp id (fun c => by omega), fun k hk2 => (h4 k hk2).imp id (Or.imp id (fun c => by omega))⟩
    rcases hk2 with hk2 | hk2
    · rcases h3 k hk2 with c | c
      · exact (hb k (.inl c)).2
      · exact ⟨by omega, by omega⟩
    · rcases h4 k hk2 with c | c | c
      · exact (hb k (.inr c)).2
      · exact (hF k c).2
      · exact ⟨by omega, by omega⟩
  have HFIN := Lib.hid FIN
  have S6 : Hid (∀ (v : World) F' R' (x : Int), MapAt v p F' R' m2 → (∀ k, F' k ∨ R' k → k ≠ b6 ∧ k ≠ b7) → MapAt (v.setCell ⟨b6, 0, none⟩ (.int .i64 x)) p F' R' m2) := fun v F' R' x hm hk => hm.keeps ((Keeps.refl (fun k => k = b6) v).setCell (x := ⟨b6, 0, none⟩) rfl _) fun k hk2 => (hk k hk2).1
  have S7 : Hid (∀ (v : World) F' R' (x : Int), MapAt v p F' R' m2 → (∀ k, F' k ∨ R' k → k ≠ b6 ∧ k ≠ b7) → MapAt (v.setCell ⟨b7, 0, none⟩ (.int .i64 x)) p F' R' m2) := fun v F' R' x hm hk => hm.keeps ((Keeps.refl (fun k => k = b7) v).setCell (x := ⟨b7, 0, none⟩) rfl _) fun k hk2 => (hk k hk2).2
  have hcn : IntKind.i64.wrap (cnt + 1) = cnt + 1 := by rw [IntKind.wrap_i64]; omega
  clear FIN h h1 hE hTb hdn hA her hap o2 o6 o7 q2 q6 q7 hb hF
  have arm : True := trivial
  go_enter Tryz.func105, Tryz.ntmps105
  cases ap with
  | true =>
    rw [if_pos rfl]
    by_cases hf : fst = 0
    · subst hf
      rw [if_pos rfl]
      go_wp2_with (first
        | (refine wpList_loadAll rfl 43 _ rfl B 19 A rfl o1 Tryz.isAgg43 Tryz.sizeOf43 zA ?_)
        | (go_at_call 19; (with_reducible refine HA.mono ?_); rintro e w2 ⟨rfl, F', R', hm2, hk2, hf2, hr2⟩; obtain ⟨o2, o6, o7, hK, hS, hF2, hR2⟩ := HFIN.out w2 F' R' hm2 hk2 hf2 hr2; have u6 := o6.cell 0 rfl; have f6 := o6.free 0; have u7 := (o7.other (p := ⟨b6, 0, none⟩) h67 (.int .i64 (cnt + 1))).cell 0 rfl; have f7 := (o7.other (p := ⟨b6, 0, none⟩) h67 (.int .i64 (cnt + 1))).free 0))
      go_end0
      exact ⟨rfl, F', R', S7.out _ _ _ _ (S6.out _ _ _ _ hm2 hS) hS, (o2.other (Ne.symm h26) _).other (Ne.symm h27) _, (by have := (o6.set 0 (.int .i64 (cnt + 1))).other (p := ⟨b7, 0, none⟩) (Ne.symm h67) (.int .i64 er); simpa using this), (by have := (o7.other (p := ⟨b6, 0, none⟩) h67 (.int .i64 (cnt + 1))).set 0 (.int .i64 er); simpa using this), (hK.setCell (x := ⟨b6, 0, none⟩) (.inr (.inl rfl)) _).setCell (x := ⟨b7, 0, none⟩) (.inr (.inr rfl)) _, hF2, hR2⟩
    · rw [if_neg hf]
      have hf1 : (fst == 0) = false := beq_eq_false_iff_ne.2 hf
      go_wp2_with (first
        | (refine wpList_loadAll rfl 43 _ rfl B 19 A rfl o1 Tryz.isAgg43 Tryz.sizeOf43 zA ?_)
        | (go_at_call 19; (with_reducible refine HA.mono ?_); rintro e w2 ⟨rfl, F', R', hm2, hk2, hf2, hr2⟩; obtain ⟨o2, o6, o7, hK, hS, hF2, hR2⟩ := HFIN.out w2 F' R' hm2 hk2 hf2 hr2; have u6 := o6.cell 0 rfl; have f6 := o6.free 0; have u7 := (o7.other (p := ⟨b6, 0, none⟩) h67 (.int .i64 (cnt + 1))).cell 0 rfl))
      go_end0
      exact ⟨rfl, F', R', S6.out _ _ _ _ hm2 hS, o2.other (Ne.symm h26) _, (by have := o6.set 0 (.int .i64 (cnt + 1)); simpa using this), o7.other (p := ⟨b6, 0, none⟩) h67 _, hK.setCell (x := ⟨b6, 0, none⟩) (.inr (.inl rfl)) _, hF2, hR2⟩
  | false =>
    rw [if_neg Bool.false_ne_true, Int.add_zero]
    by_cases hf : fst = 0
    · subst hf
      rw [if_pos rfl]
      go_wp2_with (first
        | (refine wpList_loadAll rfl 43 _ rfl B 19 A rfl o1 Tryz.isAgg43 Tryz.sizeOf43 zA ?_)
        | (go_at_call 19; (with_reducible refine HA.mono ?_); rintro e w2 ⟨rfl, F', R', hm2, hk2, hf2, hr2⟩; obtain ⟨o2, o6, o7, hK, hS, hF2, hR2⟩ := HFIN.out w2 F' R' hm2 hk2 hf2 hr2; have u7 := o7.cell 0 rfl; have f7 := o7.free 0))
      go_end0
      exact ⟨rfl, F', R', S7.out _ _ _ _ hm2 hS, o2.other (Ne.symm h27) _, o6.other (p := ⟨b7, 0, none⟩) (Ne.symm h67) _, (by have := o7.set 0 (.int .i64 er); simpa using this), hK.setCell (x := ⟨b7, 0, none⟩) (.inr (.inr rfl)) _, hF2, hR2⟩
    · rw [if_neg hf]
      have hf1 : (fst == 0) = false := beq_eq_false_iff_ne.2 hf
      go_wp2_with (first
        | (refine wpList_loadAll rfl 43 _ rfl B 19 A rfl o1 Tryz.isAgg43 Tryz.sizeOf43 zA ?_)
        | (go_at_call 19; (with_reducible refine HA.mono ?_); rintro e w2 ⟨rfl, F', R', hm2, hk2, hf2, hr2⟩; obtain ⟨o2, o6, o7, hK, hS, hF2, hR2⟩ := HFIN.out w2 F' R' hm2 hk2 hf2 hr2; have u7 := o7.cell 0 rfl))
      go_end0
      exact ⟨rfl, F', R', hm2, o2, o6, o7, hK, hF2, hR2⟩
set_option maxRecDepth 100000 in
set_option maxHeartbeats 8000000 in
theorem dMergeC (p : Nat) (F R : Nat → Prop) (m : MapN) (j : Nat) (a : Option Addr) (n c : Nat) (P : List EvR) (w0 w : World) (hb0 : Below w0.heap.size w0 w) (hF0 : ∀ k, F k → w0.heap.size ≤ k) (h : MapAt w p F R m) (hP : RowOf encE 19 w a n c P) (hO : OversAt w P) (hA : 0 < n → ∀ k, At a k → ¬ F k) (hov : ∀ r ∈ P, ∀ k, At (overA r) k → ¬ F k) (hl : ∀ r ∈ P, lightE r.e = true) (hTb : OTb w0) (hg : GoodM m j) (hjn : j + n ≤ 900) :
    Calls Tryz.prog 59 #[.pointer (some ⟨p, 0, none⟩), .slice a n c] w fun en w' => en = .returned (.tuple #[.int .i64 (mergeM m (P.map (·.e))).2.1, .int .i64 (mergeM m (P.map (·.e))).2.2]) ∧ ∃ F' R', MapAt w' p F' R' (mergeM m (P.map (·.e))).1 ∧ Keeps F w w' ∧ (∀ k, F' k → F k ∨ w.heap.size ≤ k) ∧ ∀ k, R' k → R k ∨ (∃ r ∈ P, At (overA r) k) ∨ w.heap.size ≤ k := by
  have hcm := hP.capm; have hcl := hP.cle; have hlq := hP.leq
  unfold maxLen at hcm
  have s1 := below_alloc w (.cells #[.pointer (some ⟨p, 0, none⟩)] 25)
  have t1 := ObjAt.new w #[.pointer (some ⟨p, 0, none⟩)] 25
  obtain ⟨w1, hw1⟩ : ∃ x, w.alloc (.cells #[.pointer (some ⟨p, 0, none⟩)] 25) = x := ⟨_, rfl⟩
  have z1 : w1.heap.size = w.heap.size + 1 := by rw [← hw1]; simp
  have s2 := below_alloc w1 (.cells #[.int .i64 0] 3)
  have t2 := ObjAt.new w1 #[.int .i64 0] 3
  obtain ⟨w2, hw2⟩ : ∃ x, w1.alloc (.cells #[.int .i64 0] 3) = x := ⟨_, rfl⟩
  have z2 : w2.heap.size = w.heap.size + 2 := by rw [← hw2]; simp [z1]
  have s3 := below_alloc w2 (.cells #[.int .i64 0] 46)
  have t3 := ObjAt.new w2 #[.int .i64 0] 46
  obtain ⟨w3, hw3⟩ : ∃ x, w2.alloc (.cells #[.int .i64 0] 46) = x := ⟨_, rfl⟩
  have z3 : w3.heap.size = w.heap.size + 3 := by rw [← hw3]; simp [z2]
  rw [hw1] at s1 t1
  rw [hw2] at s2 t2
  rw [hw3] at s3 t3
  have q2 := (t1.below s2 t1.lt).below s3 (t1.below s2 t1.lt).lt
  have q6 := t2.below s3 t2.lt
  obtain ⟨b2, hb2⟩ : ∃ b, w.heap.size = b := ⟨_, rfl⟩
  obtain ⟨b6, hb6⟩ : ∃ b, w1.heap.size = b := ⟨_, rfl⟩
  obtain ⟨b7, hb7⟩ : ∃ b, w2.heap.size = b := ⟨_, rfl⟩
  have c21 : w1.cell? ⟨b2, 0, none⟩ = some (.pointer (some ⟨p, 0, none⟩)) := by rw [← hb2]; exact t1.cell 0 rfl
  rw [hb2] at q2
  rw [hb6] at q6
  rw [hb7] at t3
  have b3 : Below w.heap.size w w3 := (s1.trans (s2.mono s1.size)).trans (s3.mono (s1.trans (s2.mono s1.size)).size)
  have hlt := h.lt
  have n67 : b6 ≠ b7 := by omega
  have n26 : b2 ≠ b6 := by omega
  have n27 : b2 ≠ b7 := by omega
  have c6 := q6.cell 0 rfl; have f6 := q6.free 0
  have c7 := (t3.other (p := ⟨b6, 0, none⟩) n67 (.int .i64 0)).cell 0 rfl
  have f7 := (t3.other (p := ⟨b6, 0, none⟩) n67 (.int .i64 0)).free 0
  obtain ⟨w5, hw5⟩ : ∃ x, (w3.setCell ⟨b6, 0, none⟩ (.int .i64 0)).setCell ⟨b7, 0, none⟩ (.int .i64 0) = x := ⟨_, rfl⟩
  have q25 : ObjAt w5 b2 [.pointer (some ⟨p, 0, none⟩)] := by rw [← hw5]; exact (q2.other (p := ⟨b6, 0, none⟩) (Ne.symm n26) _).other (p := ⟨b7, 0, none⟩) (Ne.symm n27) _
  have q65 : ObjAt w5 b6 [.int .i64 0] := by rw [← hw5]; have := (q6.set 0 (.int .i64 0)).other (p := ⟨b7, 0, none⟩) (Ne.symm n67) (.int .i64 0); simpa using this
  have q75 : ObjAt w5 b7 [.int .i64 0] := by rw [← hw5]; have := (t3.other (p := ⟨b6, 0, none⟩) n67 (.int .i64 0)).set 0 (.int .i64 0); simpa using this
  have b5 : Below w.heap.size w w5 := by rw [← hw5]; exact (b3.setCell (p := ⟨b6, 0, none⟩) (show w.heap.size ≤ b6 by omega) _).setCell (p := ⟨b7, 0, none⟩) (show w.heap.size ≤ b7 by omega) _
  have z5 : w5.heap.size = b2 + 3 := by rw [← hw5]; simp; omega
  have h3 := h.below b5
  have hP3 := hP.below b5
  have hgr : Hid (∀ k, GoodM (runM m ((P.take k).map (·.e))) (j + n)) := fun k => (GoodM.runs ((P.take k).map (·.e)) m j hg (by rw [List.length_map, List.length_take]; omega) (fun e he => by
    obtain ⟨r, hr, rfl⟩ := List.mem_map.1 he
    exact hl r (List.mem_of_mem_take hr))).more (by rw [List.length_map, List.length_take]; omega)
  have HP : Hid (RowOf encE 19 w a n c P) := hP
  obtain ⟨Z, hZ⟩ : ∃ Z, (#[.int .i64 0, .int .i64 0, .int .i64 0, .int .i64 0, .int .i64 0, .int .i64 0, .int .i64 0, .string ⟨#[]⟩, .string ⟨#[]⟩, .string ⟨#[]⟩, .string ⟨#[]⟩, .bool false, .bool false, .bool false, .bool false, .int .i64 0, .int .i64 0, .int .i64 0, .slice none 0 0] : Array Value) = Z := ⟨_, rfl⟩
  have zZ : Z.size = 19 := by rw [← hZ]; rfl
  have AR : Hid (b6 = b2 + 1 ∧ b7 = b2 + 2 ∧ w5.heap.size = b2 + 3) := ⟨by omega, by omega, by omega⟩
  clear hP hg s1 s2 s3 t1 t2 t3 q2 q6 b3 h z1 z2 z3 z5
  go_enter Tryz.func59, Tryz.ntmps59
  go_wp2_with fail
  go_loopw [16] (fun s wr => ∃ (k : Nat) (F' R' : Nat → Prop), k ≤ n ∧ s = .int .i64 (k : Int) ∧ MapAt wr p F' R' (mergeM m ((P.take k).map (·.e))).1 ∧ ObjAt wr b2 [.pointer (some ⟨p, 0, none⟩)] ∧ ObjAt wr b6 [.int .i64 (mergeM m ((P.take k).map (·.e))).2.1] ∧ ObjAt wr b7 [.int .i64 (mergeM m ((P.take k).map (·.e))).2.2] ∧ Keeps (fun k => F k ∨ k = b6 ∨ k = b7) w5 wr ∧ (∀ i, F' i → F i ∨ w5.heap.size ≤ i) ∧ ∀ i, R' i → R i ∨ (∃ r ∈ P, At (overA r) i) ∨ w5.heap.size ≤ i) (fun s _ => n - (intOf s).toNat)
  case atStart => exact ⟨0, F, R, Nat.zero_le _, rfl, h3, q25, q65, q75, Keeps.refl _ _, fun i hi => .inl hi, fun i hi => .inl hi⟩
  case round =>
    clear h3 q25 q65 q75 hw5 hw3 hw2 hw1 c6 f6 c7 f7 c21
    obtain ⟨k, F', R', hk, rfl, hm, o2, o6, o7, hK, hF', hR'⟩ := hrel
    obtain ⟨z6, z7, z5⟩ := AR.out
    by_cases hlt : k < n
    · have hlt' : (k : Int) < (n : Int) := by omega
      have i1 : (0 : Int) ≤ (k : Int) := by omega
      obtain ⟨g0, hg0⟩ : ∃ g, a = some g ∧ g.block < w.heap.size := by
        obtain ⟨x, g, off, _, e, hc⟩ := HP.out.at k hlt
        have hcell := hc 0 _ rfl
        exact ⟨_, e, (show g < w.heap.size from cell_lt hcell)⟩
      have hPr := hP3.keeps hK (fun i hi hc => by
        rcases hc with c | c | c
        · exact hA (by omega) i hi c
        · have e1 : g0.block = i := at_some.1 (hg0.1 ▸ hi); have := hg0.2; omega
        · have e1 : g0.block = i := at_some.1 (hg0.1 ▸ hi); have := hg0.2; omega)
      obtain ⟨r, g1, f1, A, hk1, rfl, hAe, zA, lA, cA, kA⟩ := evr_at hPr k hlt
      have hmem := List.mem_of_getElem? hk1
      have oA : A.all (·.oneCell') = true := by rw [← hAe]; exact encE_all r
      have hst := merge_snoc (m := m) hk1
      have hcn := merge_cnt ((P.take k).map (·.e)) (m, 0, 0)
      have hcn2 : 0 ≤ (mergeM m ((P.take k).map (·.e))).2.1 ∧ (mergeM m ((P.take k).map (·.e))).2.1 ≤ 1000000 := by
        have h1 : ((P.take k).map (·.e)).length ≤ 900 := by rw [List.length_map, List.length_take]; omega
        unfold mergeM
        simp only at hcn
        omega
      have hdd : (mergeM m ((P.take k).map (·.e))).1.dead.length ≤ 900000 := by
        rw [merge_map]
        have := (hgr.out k).dead
        omega
      have hov2 : ∀ i, At (overA r) i → ¬ F' i ∧ i ≠ b6 ∧ i ≠ b7 := fun i hi => by
        have h1 := overA_lt (hO r hmem) i hi
        refine ⟨fun c => (hF' i c).elim (hov r hmem i hi) (fun c => by omega), by omega, by omega⟩
      have hEr : RowOf encD 3 wr r.a r.e.over.length r.c r.e.over := over_keeps ((hO r hmem).below b5) hK (fun i hi c => by
        have h1 := overA_lt (hO r hmem) i hi
        rcases c with c | c | c
        · exact hov r hmem i hi c
        · omega
        · omega)
      have hbb : ∀ i, F' i ∨ R' i → i ≠ b2 ∧ i ≠ b6 ∧ i ≠ b7 := fun i hi => by
        have : i < w.heap.size ∨ w5.heap.size ≤ i := by
          rcases hi with hi | hi
          · exact (hF' i hi).imp (fun c => (by assumption : ∀ k, F k ∨ R k → k < w.heap.size) i (.inl c)) id
          · rcases hR' i hi with c | ⟨q, hq, c⟩ | c
            · exact .inl ((by assumption : ∀ k, F k ∨ R k → k < w.heap.size) i (.inr c))
            · exact .inl (overA_lt (hO q hq) i c)
            · exact .inr c
        omega
      have hTr : OTb wr := hTb.below ((hb0.trans (b5.mono hb0.size)).trans (hK.below (Nat.le_trans hb0.size b5.size) (fun i _ c => c.elim (hF0 i) (fun c => by have := hb0.size; omega))))
      have bl := below_alloc wr (.cells A 43)
      have ol := ObjAt.new wr A 43
      have HF := mergeFnC p b2 b6 b7 F' R' (mergeM m ((P.take k).map (·.e))).1 (mergeM m ((P.take k).map (·.e))).2.1 (mergeM m ((P.take k).map (·.e))).2.2 r A hAe (wr.alloc (.cells A 43)) (hm.below bl) (o2.below bl o2.lt) (o6.below bl o6.lt) (o7.below bl o7.lt) (by omega) (by omega) (by omega) hbb (hEr.below bl) hov2 (hl r hmem) (hTr.below bl) hdd hcn2
      rw [show (applyM (mergeM m ((P.take k).map (·.e))).1 r.e).1 = (mergeM m ((P.take (k + 1)).map (·.e))).1 from by rw [hst]; rfl, show ((mergeM m ((P.take k).map (·.e))).2.1 + if (applyM (mergeM m ((P.take k).map (·.e))).1 r.e).2.1 = true then 1 else 0) = (mergeM m ((P.take (k + 1)).map (·.e))).2.1 from by rw [hst]; rfl, show (if (mergeM m ((P.take k).map (·.e))).2.2 = 0 then (applyM (mergeM m ((P.take k).map (·.e))).1 r.e).2.2 else (mergeM m ((P.take k).map (·.e))).2.2) = (mergeM m ((P.take (k + 1)).map (·.e))).2.2 from by rw [hst]; rfl] at HF
      have hbs := bl.size
      have hKs := hK.size
      clear hcn hcn2 hdd hst hbb hov2 hEr hm o2 o6 o7 hTr hAe kA hPr hk1 lA hg0 z6 z7 z5
      obtain ⟨M2, hM2⟩ : ∃ x, mergeM m ((P.take (k + 1)).map (·.e)) = x := ⟨_, rfl⟩
      rw [hM2] at HF
      have HM := Lib.hid hM2
      clear hM2
      obtain ⟨wl, hwl⟩ : ∃ x, wr.alloc (.cells A 43) = x := ⟨_, rfl⟩
      rw [hwl] at HF ol bl hbs
      go_wp2_with (first
        | (refine wpList_loadRow rfl 43 _ rfl g1 (f1 + k * 19) 19 A rfl cA Tryz.isAgg43 Tryz.sizeOf43 zA ?_)
        | (refine wpList_storeAll rfl 43 _ _ rfl Z A 19 rfl rfl (by kernel_rfl) zZ zA oA ?_)
        | (refine wpList_loadAll rfl 43 _ rfl wr.heap.size 19 A rfl ol Tryz.isAgg43 Tryz.sizeOf43 zA ?_)
        | (go_at_call 105; (with_reducible refine HF.mono ?_); rintro e w5 ⟨rfl, F5, R5, hm5, o25, o65, o75, hk5, hF5, hR5⟩))
      go_roundw
      case rel =>
        obtain ⟨z6, z7, z5⟩ := AR.out
        refine ⟨k + 1, F5, R5, by omega, by go_num, by rw [HM.out]; exact hm5, o25, by rw [HM.out]; exact o65, by rw [HM.out]; exact o75, (hK.trans (Keeps.new bl) fun _ _ c => c).trans hk5 fun i hi c => ?_, fun i hi => ?_, fun i hi => ?_⟩
        · rcases c with c | c
          · exact (hF' i c).elim .inl (fun c => by omega)
          · exact .inr c
        · exact (hF5 i hi).elim (hF' i) (fun c => .inr (by omega))
        · rcases hR5 i hi with c | c | c
          · exact hR' i c
          · exact .inr (.inl ⟨r, hmem, c⟩)
          · exact .inr (.inr (by omega))
      case measure => simp [intOf]; omega
    · obtain rfl : n = k := by omega
      rw [List.take_of_length_le (by omega)] at hm o6 o7
      have u6 := o6.cell 0 rfl
      have u7 := o7.cell 0 rfl
      clear z6 z7 z5
      obtain ⟨M2, hM2⟩ : ∃ x, mergeM m (P.map (·.e)) = x := ⟨_, rfl⟩
      rw [hM2] at hm o6 o7 u6 u7
      have HM := Lib.hid hM2
      clear hM2
      go_wp2_with fail
      go_region
      all_goals (
        go_wp2
        go_ret2
        obtain ⟨z6, z7, z5⟩ := AR.out
        rw [HM.out]
        refine ⟨rfl, F', R', hm.below (Below.refl _ _).drew, ?_, fun i hi => (hF' i hi).imp id (fun c => by omega), fun i hi => (hR' i hi).imp id (Or.imp id (fun c => by omega))⟩
        exact ((Keeps.new b5).trans hK fun i hi c => c.elim id (fun c => by omega)).trans (Keeps.new (Below.refl _ _).drew) fun _ _ c => c)
def awM3 : MapN := ⟨[awA], [awE2], []⟩
theorem de_ex1 : mergeM MapN.none [awE2] = (awM3, 1, 0) := by kernel_rfl
theorem de_ex2 : ofM [] (-1) awM3.kept = [awE2] := by kernel_rfl
theorem de_ex3 : needsM awM3 [] = true := by kernel_rfl
theorem de_ex4 : behindM awM3 [] = false := by kernel_rfl
theorem de_ex5 : checkV [] = 0 := by kernel_rfl
theorem fitA : FitD awA := by unfold awA; refine ⟨?_, ?_, ?_⟩ <;> (unfold is64; decide)
set_option maxHeartbeats 4000000 in
set_option maxRecDepth 100000 in
theorem awake22C (w : World) (hTb : OTb w) : Calls Tryz.prog 51 #[] w fun e w' => e = .returned (.bool true) ∧ Below w.heap.size w w' := by
  have HN := fun v => mNewC v
  have HM : ∀ (w1 : World) p F R, MapAt w1 p F R MapN.none → Below w.heap.size w w1 → (∀ k, F k ∨ R k → w.heap.size ≤ k) → Calls Tryz.prog 59 #[.pointer (some ⟨p, 0, none⟩), .slice (some ⟨w1.heap.size, 0, none⟩) 1 1] (w1.alloc (.cells #[.int .i64 0, .int .i64 1, .int .i64 1, .int .i64 0, .int .i64 0, .int .i64 0, .int .i64 1, .string ⟨#[110]⟩, .string ⟨#[100]⟩, .string ⟨#[47]⟩, .string ⟨#[]⟩, .bool false, .bool false, .bool false, .bool false, .int .i64 1099511627776, .int .i64 0, .int .i64 0, .slice none 0 0] 43)) fun en w' => en = .returned (.tuple #[.int .i64 1, .int .i64 0]) ∧ ∃ F' R', MapAt w' p F' R' awM3 ∧ Below w.heap.size w w' := fun w1 p F R hm hb hF => by
    have b1 := below_alloc w1 (.cells #[.int .i64 0, .int .i64 1, .int .i64 1, .int .i64 0, .int .i64 0, .int .i64 0, .int .i64 1, .string ⟨#[110]⟩, .string ⟨#[100]⟩, .string ⟨#[47]⟩, .string ⟨#[]⟩, .bool false, .bool false, .bool false, .bool false, .int .i64 1099511627776, .int .i64 0, .int .i64 0, .slice none 0 0] 43)
    have ho : OwnZ encE 19 w1.heap.size 43 (some ⟨w1.heap.size, 0, none⟩) 1 1 [(⟨awE2, none, 0⟩ : EvR)] (w1.alloc (.cells #[.int .i64 0, .int .i64 1, .int .i64 1, .int .i64 0, .int .i64 0, .int .i64 0, .int .i64 1, .string ⟨#[110]⟩, .string ⟨#[100]⟩, .string ⟨#[47]⟩, .string ⟨#[]⟩, .bool false, .bool false, .bool false, .bool false, .int .i64 1099511627776, .int .i64 0, .int .i64 0, .slice none 0 0] 43)) := OwnZ.new encE_len [⟨awE2, none, 0⟩] #[.int .i64 0, .int .i64 1, .int .i64 1, .int .i64 0, .int .i64 0, .int .i64 0, .int .i64 1, .string ⟨#[110]⟩, .string ⟨#[100]⟩, .string ⟨#[47]⟩, .string ⟨#[]⟩, .bool false, .bool false, .bool false, .bool false, .int .i64 1099511627776, .int .i64 0, .int .i64 0, .slice none 0 0] rfl 1 rfl (by decide) 43 w1
    have h := dMergeC p F R MapN.none 0 (some ⟨w1.heap.size, 0, none⟩) 1 1 [⟨awE2, none, 0⟩] w (w1.alloc (.cells #[.int .i64 0, .int .i64 1, .int .i64 1, .int .i64 0, .int .i64 0, .int .i64 0, .int .i64 1, .string ⟨#[110]⟩, .string ⟨#[100]⟩, .string ⟨#[47]⟩, .string ⟨#[]⟩, .bool false, .bool false, .bool false, .bool false, .int .i64 1099511627776, .int .i64 0, .int .i64 0, .slice none 0 0] 43)) (hb.trans (b1.mono hb.size)) (fun k hk => hF k (.inl hk)) (hm.below b1) (ho.row encE_len) (fun r hr => by rw [List.mem_singleton.1 hr]; exact RowOf.none encD 3 _) (fun _ k hk hc => by have e1 : w1.heap.size = k := at_some.1 hk; have := hm.lt k (.inl hc); omega) (fun r hr k hk => by rw [List.mem_singleton.1 hr] at hk; exact absurd hk (at_none k)) (fun r hr => by rw [List.mem_singleton.1 hr]; exact or_ex6) hTb GoodM.none (by omega)
    rw [show ([(⟨awE2, none, 0⟩ : EvR)].map (·.e)) = [awE2] from rfl, de_ex1] at h
    refine h.mono ?_
    rintro en w' ⟨rfl, F', R', hm', hk, h3, -⟩
    have hb2 := hb.trans (b1.mono hb.size)
    exact ⟨rfl, F', R', hm', hb2.trans (hk.below hb2.size fun k _ hc => hF k (.inl hc))⟩
  have HO : ∀ v p F R, MapAt v p F R awM3 → Calls Tryz.prog 53 #[.pointer (some ⟨p, 0, none⟩), .slice none 0 0, .int .i64 (-1)] v fun en w' => ∃ q c2, en = .returned (.tuple #[.slice q 1 c2, .int .i64 0]) ∧ Below v.heap.size v w' := fun v p F R h => by
    have := dOfYes p rfl h.arg none 0 0 [] (-1) (RowOf.none encD 3 v) (fun x hx => absurd hx List.not_mem_nil) de_ex5 (fun e he => by rw [List.mem_singleton.1 he]; exact fitA)
    rw [de_ex2] at this
    refine this.mono ?_
    rintro en w' ⟨q, k, c2, P, rfl, hP, hz, -, -, hx⟩
    obtain rfl : k = 1 := by have h1 := hz.2.1; have h2 := congrArg List.length hP; rw [List.length_map] at h2; simp at h2; omega
    exact ⟨q, c2, rfl, hx⟩
  have HE : ∀ v p F R, MapAt v p F R awM3 → Calls Tryz.prog 55 #[.pointer (some ⟨p, 0, none⟩), .slice none 0 0] v fun en w' => en = .returned (.bool true) ∧ Below v.heap.size v w' := fun v p F R h => by
    have := dNeedsC h.arg none 0 0 [] (RowOf.none encD 3 v) (fun x hx => absurd hx List.not_mem_nil)
    rw [de_ex3] at this
    exact this
  have HB : ∀ v p F R, MapAt v p F R awM3 → Calls Tryz.prog 56 #[.pointer (some ⟨p, 0, none⟩), .slice none 0 0] v fun en w' => en = .returned (.bool false) ∧ Below v.heap.size v w' := fun v p F R h => by
    have := dBehindC p rfl h.arg none 0 0 [] (RowOf.none encD 3 v) (fun x hx => absurd hx List.not_mem_nil)
    rw [de_ex4] at this
    exact this
  go_enter Tryz.func51, Tryz.ntmps51
  go_wp2_with (first
    | (go_at_call 17; (with_reducible refine (HN _).mono ?_); rintro e w1 ⟨p, F, R, rfl, hm1, hF, hx1⟩)
    | (go_at_call 59; (with_reducible refine (HM _ _ _ _ hm1 hx1 hF).mono ?_); rintro e w2 ⟨rfl, F2, R2, hm2, hb2⟩)
    | (go_at_call 53; (with_reducible refine (HO _ _ _ _ hm2).mono ?_); rintro e w3 ⟨q, c2, rfl, hx3⟩; have hm3 := hm2.below hx3; have hb3 := hb2.trans (hx3.mono hb2.size))
    | (go_at_call 55; (with_reducible refine (HE _ _ _ _ hm3).mono ?_); rintro e w4 ⟨rfl, hx4⟩; have hm4 := hm3.below hx4; have hb4 := hb3.trans (hx4.mono hb3.size))
    | (go_at_call 56; (with_reducible refine (HB _ _ _ _ hm4).mono ?_); rintro e w5 ⟨rfl, hx5⟩; have hb5 := hb4.trans (hx5.mono hb4.size)))
  go_ret
  exact ⟨rfl, hb5⟩
end Go.Proofs.YtaodjnkjjmhecaaGreatDoor
