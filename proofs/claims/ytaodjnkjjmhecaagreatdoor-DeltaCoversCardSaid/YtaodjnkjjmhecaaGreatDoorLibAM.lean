/- Contracts and plain words that the laws' proofs stand on. -/
import Derived.Test.YtaodjnkjjmhecaaGreatDoorLibAU
namespace Go.Proofs.YtaodjnkjjmhecaaGreatDoor
open Go.RowKit
set_option linter.unusedVariables false
def coversV (l m : List DotN) : Bool := m.all fun x => decide (x.seq ≤ getV l x.dev x.inc)
theorem no_int {a b c : Option Addr} {n1 n2 n3 c1 c2 c3 : Nat} : ∀ v ∈ ([.slice a n1 c1, .slice b n2 c2, .slice c n3 c3] : List Value), ∀ n, v ≠ .int .i64 n := by
  intro v hv
  simp at hv
  rcases hv with rfl | rfl | rfl <;> (intro n c; cases c)
theorem setM_keeps {v : World} {B : Nat} (x y z : Value) : Keeps (fun k => k = B) v (((v.setCell ⟨B, 0, none⟩ x).setCell ⟨B, 1, none⟩ y).setCell ⟨B, 2, none⟩ z) := (((Keeps.refl (fun k => k = B) v).setCell (x := ⟨B, 0, none⟩) rfl x).setCell (x := ⟨B, 1, none⟩) rfl y).setCell (x := ⟨B, 2, none⟩) rfl z
theorem setM_obj {v : World} {B : Nat} {a b c : Value} (o : ObjAt v B [a, b, c]) (x y z : Value) : ObjAt (((v.setCell ⟨B, 0, none⟩ x).setCell ⟨B, 1, none⟩ y).setCell ⟨B, 2, none⟩ z) B [x, y, z] := ((o.set 0 x).set 1 y).set 2 z
end Go.Proofs.YtaodjnkjjmhecaaGreatDoor
namespace Go.Proofs.YtaodjnkjjmhecaaGreatDoor
open Go.RowKit Go.Lib
set_option linter.unusedVariables false
set_option linter.unusedSimpArgs false
theorem MapAt.store {w w' : World} {p b : Nat} {F R : Nat → Prop} {m : MapN} {vs : List Value} (h : MapAt w p F R m) (o : ObjAt w b vs) (hv : ∀ v ∈ vs, ∀ n, v ≠ .int .i64 n) (hvs : vs ≠ []) (hF : ¬ F b) (hk : Keeps (fun k => k = b) w w') : ∃ R', MapAt w' p F R' m ∧ ∀ k, R' k → R k := by
  obtain ⟨B, rs, hR, h1, h2⟩ := h.real
  have hno : ∀ r ∈ rs, ¬ At (overA r) b := fun r hr hc => by
    obtain ⟨i, n, hcell⟩ := over_cell (hR.over r hr) b hc
    obtain ⟨e, he⟩ := o.heap
    have h3 : ∃ v, v ∈ vs ∧ v = .int .i64 n := by
      unfold World.cell? at hcell
      rw [he] at hcell
      simp at hcell
      exact ⟨_, List.mem_of_getElem? hcell, rfl⟩
    obtain ⟨v, hv1, hv2⟩ := h3
    exact hv v hv1 n hv2
  refine ⟨fun k => R k ∧ k ≠ b, ⟨h.own, fun k hk2 => Nat.lt_of_lt_of_le (h.lt k (hk2.imp id (·.1))) hk.size, fun k hk2 hc => h.apart k hk2 hc.1, B, rs, hR.keeps hk (fun c => hF (c ▸ h.own)) (fun i b' e c => hF (c ▸ h1 i b' e)) (fun r hr k hk2 c => hno r hr (c ▸ hk2)), h1, fun r hr k hk2 => ⟨h2 r hr k hk2, fun c => hno r hr (c ▸ hk2)⟩⟩, fun k hk2 => hk2.1⟩
def MadeIs (P : List EvR) (w : World) (en : Ending) (w' : World) : Prop := ∃ (p : Nat) (F R : Nat → Prop) (ac : Option Addr) (nc cc : Nat) (ak : Option Addr) (nk ck : Nat) (ad : Option Addr) (nd cd : Nat),
  en = .returned (.tuple #[.pointer (some ⟨p, 0, none⟩), .agg #[.slice ac nc cc, .slice ak nk ck, .slice ad nd cd]]) ∧ MapAt w' p F R (foldR P).plain ∧ (∀ k, F k → w.heap.size ≤ k) ∧ RowM w' ac nc cc ak nk ck ad nd cd (foldR P) ∧ Below w.heap.size w w'
set_option maxHeartbeats 4000000 in
set_option maxRecDepth 100000 in
theorem madeC (a : Option Addr) (n c : Nat) (P : List EvR) (w : World) (hL : RowOf encE 19 w a n c P) (hO : OversAt w P) (hli : ∀ r ∈ P, lightE r.e = true) (hn : n ≤ 900) (hTb : OTb w) :
    Calls Tryz.prog 52 #[.slice a n c] w (MadeIs P w) := by
  have hcm := hL.capm
  have hcl := hL.cle
  unfold maxLen at hcm
  have hlq := hL.leq
  have b0 := below_alloc w (.cells #[.slice none 0 0, .slice none 0 0, .slice none 0 0] 31)
  have o0 := ObjAt.new w #[.slice none 0 0, .slice none 0 0, .slice none 0 0] 31
  obtain ⟨r0, hr0⟩ : ∃ b, w.heap.size = b := ⟨_, rfl⟩
  rw [hr0] at o0
  obtain ⟨w0, hw0⟩ : ∃ x, w.alloc (.cells #[.slice none 0 0, .slice none 0 0, .slice none 0 0] 31) = x := ⟨_, rfl⟩
  rw [hw0] at b0 o0
  have hL0 := hL.below b0
  have hO0 : OversAt w0 P := hO.below b0
  have hT0 := hTb.below b0
  have l0 := o0.lt
  have HN := fun v => mNewC v
  clear hL hO hTb
  go_enter Tryz.func52, Tryz.ntmps52
  go_wp2_with (go_at_call 17; (with_reducible refine (HN _).mono ?_); rintro e w2 ⟨p, F, R, rfl, hm2, hF2, hx2⟩; have hS0 := StOm.new hm2 hF2 hx2)
  clear hm2 hF2 hx2 HN
  go_loopw [5] (fun i wr => ∃ k : Nat, k ≤ n ∧ i = .int .i64 (k : Int) ∧ StOm w0 p (runM MapN.none ((P.take k).map (·.e))) wr) (fun i _ => n - (intOf i).toNat)
  case atStart => exact ⟨0, Nat.zero_le _, rfl, hS0⟩
  case round =>
    clear hS0
    obtain ⟨k, hk, rfl, hS⟩ := hrel
    by_cases hlt : k < n
    · have hlt' : (k : Int) < (n : Int) := by omega
      have i1 : (0 : Int) ≤ (k : Int) := by omega
      obtain ⟨r, g1, f1, A, hk1, rfl, hA, zA, lA, cA0, kA⟩ := evr_at hL0 k hlt
      have cA := kA wr hS.hb
      have hmem := List.mem_of_getElem? hk1
      have HAp := stOApply r A hA hS (hO0 r hmem) (hli r hmem) hT0 (take_dead hli (by omega) k)
      rw [← run_snoc MapN.none hk1] at HAp
      clear cA0 kA hA lA hk1
      go_wp2_with (first | (refine wpList_loadRow rfl 43 _ rfl g1 (f1 + k * 19) 19 A rfl cA Tryz.isAgg43 Tryz.sizeOf43 zA ?_) | (go_at_call 19; (with_reducible refine HAp.mono ?_); rintro e w4 ⟨rfl, hS4⟩))
      go_roundw
      case rel => exact ⟨k + 1, by omega, by go_num, hS4⟩
      case measure => simp [intOf]; omega
    · obtain rfl : n = k := by omega
      obtain ⟨wo, hwo⟩ : ∃ wo, wo = wr := ⟨wr, rfl⟩
      subst hwo
      rw [List.take_of_length_le (by omega), show runM MapN.none (P.map (·.e)) = foldM (P.map (·.e)) from rfl, ← fold_map] at hS
      have HFO := refFoldC a n c P wo (hL0.below hS.hb) (hO0.below hS.hb) hli (by omega)
      unfold MadeIs
      obtain ⟨F, R, hm, hF⟩ := hS.ex
      have hb := hS.hb
      clear hlt hk hS hL0 hO0 hli
      go_wp2_with (go_at_call 29; (with_reducible refine HFO.mono ?_); rintro e w6 ⟨ac, nc, cc, ak, nk, ck, ad, nd, cd, rfl, hW, hi6, hx6⟩; have o6 := (o0.below hb l0).below hx6 (o0.below hb l0).lt; have f0 := o6.free 0; have f1 := o6.free 1; have f2 := o6.free 2; have c0 := o6.cell 0 rfl; have c1 := o6.cell 1 rfl; have c2 := o6.cell 2 rfl)
      have hm6 := hm.below hx6
      have hs0 := b0.size
      obtain ⟨R', hm9, -⟩ := hm6.store o6 no_int (by simp) (fun c => by have := hF r0 c; omega) (setM_keeps (.slice ac nc cc) (.slice ak nk ck) (.slice ad nd cd))
      have hW9 := hW.obj o6 no_int (setM_keeps (.slice ac nc cc) (.slice ak nk ck) (.slice ad nd cd))
      have o9 := setM_obj o6 (.slice ac nc cc) (.slice ak nk ck) (.slice ad nd cd)
      have r0' := o9.cell 0 rfl; have r1 := o9.cell 1 rfl; have r2 := o9.cell 2 rfl
      have hbf : Below w.heap.size w (((w6.setCell ⟨r0, 0, none⟩ (.slice ac nc cc)).setCell ⟨r0, 1, none⟩ (.slice ak nk ck)).setCell ⟨r0, 2, none⟩ (.slice ad nd cd)) :=
        ((b0.trans (hb.mono b0.size)).trans (hx6.mono (Nat.le_trans b0.size hb.size))).trans ((setM_keeps (.slice ac nc cc) (.slice ak nk ck) (.slice ad nd cd)).below (by have := hb.size; have := hx6.size; omega) (fun k _ e => by omega))
      exact bodyPost_ret (v := .tuple #[.pointer (some ⟨p, 0, none⟩), .agg #[.slice ac nc cc, .slice ak nk ck, .slice ad nd cd]]) (by simp [results, Tryz.results52, go_sem, r0', r1, r2]) rfl ⟨p, F, R', ac, nc, cc, ak, nk, ck, ad, nd, cd, rfl, hm9, fun k hk => Nat.le_trans b0.size (hF k hk), hW9, hbf⟩
theorem any_covers {L M : List DotN} (hM : ∀ x ∈ M, rightD x = true) : (M.any fun x => !hasV L x) = !coversV L M := by
  unfold coversV
  rw [← List.not_all_eq_any_not]
  refine congrArg _ (Bool.eq_iff_iff.2 ?_)
  rw [List.all_eq_true, List.all_eq_true]
  refine forall_congr' fun x => forall_congr' fun hx => ?_
  unfold hasV
  rw [hM x hx, Bool.true_and]
theorem ArgM.keptFit {w : World} {v : Value} {m : MapN} (h : ArgM w v m) : ∀ e ∈ m.kept, FitD e.dot := by
  rcases h with ⟨-, rfl⟩ | ⟨p, B, rs, -, hR⟩
  · exact fun x hx => absurd hx List.not_mem_nil
  · exact fun e he => hR.fit he
end Go.Proofs.YtaodjnkjjmhecaaGreatDoor
