/- Contracts and plain words that the laws' proofs stand on. -/
import Derived.Test.YtaodjnkjjmhecaaGreatDoorLibAF
import Derived.Test.YtaodjnkjjmhecaaGreatDoorSfPartition
namespace Go.Proofs.YtaodjnkjjmhecaaGreatDoor
set_option linter.unusedVariables false
theorem less_irrefl : ∀ a : List UInt8, Op.bytesLess a a = false
  | [] => rfl
  | x :: l => by
    rw [Op.bytesLess, less_irrefl l, Bool.and_false, Bool.or_false]
    exact decide_eq_false (UInt8.lt_irrefl x)
theorem less_total : ∀ {a b : List UInt8}, a ≠ b → Op.bytesLess a b = !Op.bytesLess b a
  | [], [], h => absurd rfl h
  | [], _ :: _, _ => rfl
  | _ :: _, [], _ => rfl
  | x :: l, y :: m, h => by
    rw [Op.bytesLess, Op.bytesLess]
    by_cases e : x = y
    · subst e
      have h2 : l ≠ m := fun c => h (by rw [c])
      rw [less_total h2, beq_self_eq_true, decide_eq_false (UInt8.lt_irrefl x)]
      simp
    · rw [beq_eq_false_iff_ne.2 e, beq_eq_false_iff_ne.2 (Ne.symm e), Bool.false_and, Bool.false_and, Bool.or_false, Bool.or_false]
      have h1 : x.toNat ≠ y.toNat := fun c => e (UInt8.toNat.inj c)
      by_cases c : x < y
      · have c2 : ¬ y < x := by rw [UInt8.lt_iff_toNat_lt] at c ⊢; omega
        rw [decide_eq_true c, decide_eq_false c2]
        rfl
      · have c2 : y < x := by rw [UInt8.lt_iff_toNat_lt] at c ⊢; omega
        rw [decide_eq_false c, decide_eq_true c2]
        rfl
theorem less_trans : ∀ {a b c : List UInt8}, Op.bytesLess a b = true → Op.bytesLess b c = true → Op.bytesLess a c = true
  | _, [], _, h, _ => by cases h' : ‹List UInt8› <;> simp [Op.bytesLess] at h
  | _, _ :: _, [], _, h => by simp [Op.bytesLess] at h
  | [], _ :: _, _ :: _, _, _ => rfl
  | x :: l, y :: m, z :: n, h1, h2 => by
    rw [Op.bytesLess, Bool.or_eq_true, Bool.and_eq_true, decide_eq_true_iff, beq_iff_eq] at h1 h2 ⊢
    rw [UInt8.lt_iff_toNat_lt] at *
    rcases h1 with h1 | ⟨rfl, h1⟩ <;> rcases h2 with h2 | ⟨rfl, h2⟩
    · exact .inl (by omega)
    · exact .inl h1
    · exact .inl h2
    · exact .inr ⟨rfl, less_trans h1 h2⟩
theorem key_self {a b : ItemL} (h : sameKey a b = true) : keyLess a b = false ∧ a.name = b.name ∧ a.dom = b.dom ∧ a.path = b.path := by
  unfold sameKey at h
  rw [Bool.and_eq_true, Bool.and_eq_true, beq_iff_eq, beq_iff_eq, beq_iff_eq] at h
  obtain ⟨h1, h2, h3⟩ := h
  unfold keyLess
  rw [h1, h2, h3]
  simp [less_irrefl]
theorem key_total {a b : ItemL} (h : sameKey a b = false) : keyLess a b = !keyLess b a := by
  unfold keyLess
  by_cases h1 : a.name = b.name
  · by_cases h2 : a.dom = b.dom
    · have h3 : a.path ≠ b.path := fun c => by unfold sameKey at h; rw [h1, h2, c] at h; simp at h
      rw [h1, h2]
      simp [less_total h3]
    · rw [h1]
      simp [h2, Ne.symm h2, less_total h2]
  · simp [h1, Ne.symm h1, less_total h1]
theorem key_trans {a b c : ItemL} (h1 : keyLess a b = true) (h2 : keyLess b c = true) : keyLess a c = true := by
  unfold keyLess at *
  by_cases n1 : a.name = b.name
  · rw [← n1] at h2
    rw [if_neg (by simp [n1])] at h1
    by_cases n2 : a.name = c.name
    · rw [if_neg (by simp [n2])] at h2 ⊢
      by_cases d1 : a.dom = b.dom
      · rw [← d1] at h2
        rw [if_neg (by simp [d1])] at h1
        by_cases d2 : a.dom = c.dom
        · rw [if_neg (by simp [d2])] at h2 ⊢
          exact less_trans h1 h2
        · rw [if_pos d2] at h2 ⊢
          exact h2
      · rw [if_pos d1] at h1
        by_cases d2 : b.dom = c.dom
        · rw [← d2, if_pos d1]
          exact h1
        · rw [if_pos d2] at h2
          have h3 := less_trans h1 h2
          by_cases d3 : a.dom = c.dom
          · rw [d3, less_irrefl] at h3; cases h3
          · rw [if_pos d3]; exact h3
    · rw [if_pos n2] at h2 ⊢
      exact h2
  · rw [if_pos n1] at h1
    by_cases n2 : b.name = c.name
    · rw [← n2, if_pos n1]
      exact h1
    · rw [if_pos n2] at h2
      have h3 := less_trans h1 h2
      by_cases n3 : a.name = c.name
      · rw [n3, less_irrefl] at h3; cases h3
      · rw [if_pos n3]; exact h3
end Go.Proofs.YtaodjnkjjmhecaaGreatDoor
namespace Go.Proofs.YtaodjnkjjmhecaaGreatDoor
open Go.RowKit
set_option linter.unusedVariables false
def frontK (l : List EventN) (e : EventN) : Nat := l.findIdx fun y => !keyLess y.item e.item
def insK (l : List EventN) (e : EventN) : List EventN := l.take (frontK l e) ++ e :: l.drop (frontK l e)
def winStep (m : MapN) (out : List EventN) (x : EventN) : List EventN :=
  match winnerM m x.item with
  | none => out
  | some e => if sameD e.dot x.dot = true then insK out e else out
def winnersM (m : MapN) : List EventN := (aliveM m).foldl (winStep m) []
theorem two_obj (w : World) (A B : Array Value) (a b : TypeId) :
    ObjAt ((w.alloc (.cells A a)).alloc (.cells B b)) w.heap.size A.toList ∧ ObjAt ((w.alloc (.cells A a)).alloc (.cells B b)) (w.heap.size + 1) B.toList ∧ Below w.heap.size w ((w.alloc (.cells A a)).alloc (.cells B b)) := by
  have s1 : (w.alloc (.cells A a)).heap.size = w.heap.size + 1 := by simp
  have o1 := ObjAt.new w A a
  have o2 := ObjAt.new (w.alloc (.cells A a)) B b
  have b1 := below_alloc w (.cells A a)
  have b2 := below_alloc (w.alloc (.cells A a)) (.cells B b)
  have o1' := o1.below b2 o1.lt
  rw [s1] at o2
  exact ⟨o1', o2, b1.trans (b2.mono b1.size)⟩
end Go.Proofs.YtaodjnkjjmhecaaGreatDoor
namespace Go.Proofs.YtaodjnkjjmhecaaGreatDoor
open Go.RowKit Go.Shelf
set_option linter.unusedVariables false
set_option maxRecDepth 100000 in
set_option maxHeartbeats 2000000 in
theorem mDeadsA {w : World} {v : Value} {m : MapN} (h : ArgM w v m) (hd : m.dead.length ≤ 100000) : Calls Tryz.prog 48 #[v] w (GivesZ encD 3 35 m.dead m.dead.length w) := by
  have HO := mOrNewI h
  have HS : ∀ (ww : World) a n c L, RowOf encD 3 ww a n c L → (∀ x ∈ L, FitD x) → n ≤ 100000 → sortD L = m.dead → Calls Tryz.prog 95 #[.slice a n c] ww (GivesZ encD 3 35 m.dead m.dead.length ww) := fun ww a n c L hL hF hn hs => by
    have := dotSortC0 a n c L ww hL hF hn
    rw [hs] at this
    exact this
  unfold GivesZ at HS ⊢
  go_enter Tryz.func48, Tryz.ntmps48
  go_wp2_with (first
    | (go_at_call 73; (with_reducible refine HO.mono ?_); rintro e w1 ⟨p, B, rs, rfl, hR, hx⟩; have c1 := hR.obj.cell 2 rfl; have HM := keysMakeS (B .dead) w1; have b2 := below_alloc w1 (.cells #[.map (B .dead)] 103); have hR2 := hR.below b2; have oc := (ObjAt.new w1 #[.map (B .dead)] 103).cell 0 rfl; have HC := collectS hR2.dead oc hR2.ok.dead (fun x hx => right_fitD (hR2.ok.rdead x hx)) hd)
    | (go_at_call 76; (with_reducible refine HM.mono ?_); rintro e w2 ⟨rfl, rfl⟩)
    | (go_at_call 84; (with_reducible refine HC.mono ?_); rintro e w3 ⟨L, k, ⟨a3, c3, rfl, hz3, hx3⟩, hk3, hs3, hf3, hi3⟩; have HG3 := HS w3 a3 k c3 L (hz3.row encD_len) hf3 hk3 hs3)
    | (go_at_call 95; (with_reducible refine HG3.mono ?_); rintro e w4 ⟨a4, c4, rfl, hz4, hx4⟩))
  go_ret
  have hb := (hx.trans (b2.mono hx.size)).trans (hx3.mono (Nat.le_trans hx.size b2.size))
  exact ⟨a4, c4, rfl, hz4.base hb.size, hb.trans (hx4.mono hb.size)⟩
end Go.Proofs.YtaodjnkjjmhecaaGreatDoor
namespace Go.Proofs.YtaodjnkjjmhecaaGreatDoor
open Go.RowKit
set_option linter.unusedVariables false
def GivesDs (L : List DotN) (w : World) (en : Ending) (w' : World) : Prop :=
  ∃ a n c, en = .returned (.slice a n c) ∧ RowOf encD 3 w' a n c L ∧ Below w.heap.size w w'
def GivesDr (R : Nat → Prop) (L : List DotN) (w : World) (en : Ending) (w' : World) : Prop :=
  ∃ a n c, en = .returned (.slice a n c) ∧ RowOf encD 3 w' a n c L ∧ (∀ k, At a k → (R k ∨ w.heap.size ≤ k) ∧ k < w'.heap.size) ∧ Below w.heap.size w w'
theorem GivesDr.ds {R : Nat → Prop} {L : List DotN} {w : World} {en : Ending} {w' : World} (h : GivesDr R L w en w') : GivesDs L w en w' := by
  obtain ⟨a, n, c, rfl, h1, -, h2⟩ := h
  exact ⟨a, n, c, rfl, h1, h2⟩
theorem own_dr {t : TypeId} {R : Nat → Prop} {L : List DotN} {w : World} {en : Ending} {w' : World} (h : ∃ a c, en = .returned (.slice a L.length c) ∧ OwnZ encD 3 w.heap.size t a L.length c L w' ∧ Below w.heap.size w w') : GivesDr R L w en w' := by
  obtain ⟨a, c, rfl, hz, hx⟩ := h
  exact ⟨a, _, c, rfl, hz.row encD_len, fun k hk => ⟨.inr (hz.lt' k hk).1, (hz.lt' k hk).2⟩, hx⟩
end Go.Proofs.YtaodjnkjjmhecaaGreatDoor
namespace Go.Proofs.YtaodjnkjjmhecaaGreatDoor
open Go.Shelf Go.RowKit Go.Lib
open Go.Sort (swp)
set_option linter.unusedVariables false
set_option linter.unusedSimpArgs false
set_option linter.unusedSectionVars false
variable {α : Type} [Inhabited α]
set_option maxHeartbeats 8000000 in
set_option maxRecDepth 1000000 in
theorem sfInsert {P : Program} {ρ : Ren} {g : Nat} {lb : Array Value} {sf : Nat} {sb : Array Value} {lt : α → α → Bool} {n blk B : Nat} {S : Array α → World → Prop} {sw : Array α → World → Nat → Nat → World} (L : LaysGg.n26 P ρ) (H : Sorts P g lb sf sb lt n blk B S sw) (a b : Nat) (d : Array α) (w : World) (hS : S d w) (hab : a ≤ b) (hb : b ≤ n) :
    Calls P (ρ.f 26) #[.agg #[.func (.func g) #[] lb, .func (.func sf) #[] sb], .int .i64 a, .int .i64 b] w fun e w' => e = .returned (.tuple #[]) ∧ InS S blk w (Sort.insertionSort lt d a b) w' := by
  have mixed := L.mixed; have t0 := L.t0; have a0 := L.a0; have z0 := L.z0; have v0 := L.v0; have t3 := L.t3; have a3 := L.a3; have z3 := L.z3; have v3 := L.v3; have t4 := L.t4; have a4 := L.a4; have z4 := L.z4; have v4 := L.v4; have t26 := L.t26; have a26 := L.a26; have z26 := L.z26; have v26 := L.v26; have t37 := L.t37; have a37 := L.a37; have z37 := L.z37; have v37 := L.v37; have t44 := L.t44; have a44 := L.a44; have z44 := L.z44; have v44 := L.v44
  have u44 := run_underlying L.t44
  have eg := H.eg
  have hn := H.small
  have hne : w.heap.size ≠ blk := by have := H.row; have := H.base hS; omega
  obtain ⟨w1, hw1⟩ : ∃ x, w.alloc (.cells #[.func (.func g) #[] lb, .func (.func sf) #[] sb] (ρ.t 44)) = x := ⟨_, rfl⟩
  have TT : Aside (InS S blk w1 d w1) := by subst hw1; exact H.boxed hS _
  have CC : Hid (∀ (e : Array α) (W : World), InS S blk w1 e W → W.cell? ⟨w.heap.size, 0, none⟩ = some (.func (.func g) #[] lb) ∧ W.cell? ⟨w.heap.size, 1, none⟩ = some (.func (.func sf) #[] sb)) :=
    fun e W h => ⟨h.cell hne (by rw [← hw1]; simp), h.cell hne (by rw [← hw1]; simp)⟩
  have BB : Hid (∀ (e : Array α) (W : World), InS S blk w1 e W → InS S blk w e W) := fun e W h => h.more (by rw [← hw1]; exact below_alloc _ _)
  clear hS
  go_enter L.f26, BodyGg.n26_ntmps ρ
  go_wp2
  go_loopg [6] (b + 1 - (a + 1)) (fun kx s6 wr => ∃ (i : Nat) (dk : Array α), s6 = .int .i64 i ∧ a < i ∧ i ≤ b + 1 ∧ b + 1 - i ≤ kx ∧ Aside (InS S blk w1 dk wr) ∧ Hid (Sort.insOuter lt a b i dk = Sort.insOuter lt a b (a + 1) d))
  case atStart => exact ⟨a + 1, d, by go_num, by omega, by omega, by omega, TT, rfl⟩
  case round =>
    clear TT
    obtain ⟨i, dk, rfl, hai, hib, hkx, T, HE⟩ := hrel
    by_cases hlt : i < b
    · obtain ⟨wo, hwo⟩ : ∃ wo, wo = wr := ⟨wr, rfl⟩
      subst hwo
      go_wp2
      go_loopg [7] i (fun ky s7 wr => ∃ (j : Nat) (dj : Array α), s7 = .int .i64 j ∧ a ≤ j ∧ j ≤ i ∧ j ≤ ky ∧ Aside (InS S blk w1 dj wr) ∧ Hid (Sort.insInner lt a j dj = Sort.insInner lt a i dk))
      case atStart => exact ⟨i, dk, rfl, by omega, Nat.le_refl _, Nat.le_refl _, T, rfl⟩
      case round =>
        clear T
        obtain ⟨j, dj, rfl, haj, hji, hky, T, HI⟩ := hrel
        have out : Hid ((j ≤ a ∨ lt dj[j]! dj[j - 1]! = false) → Sort.insOuter lt a b (i + 1) dj = Sort.insOuter lt a b (a + 1) d) := fun hs => by
          rw [← HE.out, insOuter_go _ _ _ _ _ hlt, ← HI.out, insInner_stop _ _ _ _ hs]
        obtain ⟨c0, c1⟩ := CC.out _ _ T.out
        by_cases hja : a < j
        · have hl := H.lessT T.out j (j - 1) (by omega) (by omega)
          rw [show ((j - 1 : Nat) : Int) = (j : Int) - 1 by omega] at hl
          cases hlv : lt dj[j]! dj[j - 1]! with
          | true =>
            rw [hlv] at hl
            have HS : Hid (∀ W, InS S blk w1 dj W → _) := fun W h => H.swapT (W := W) h j (j - 1) (by omega) (by omega)
            rw [show ((j - 1 : Nat) : Int) = (j : Int) - 1 by omega] at HS
            go_wp2_with (go_at_fn g; (refine hl.mono ?_); rintro e w2 ⟨rfl, T2⟩; obtain ⟨hs, T3⟩ := HS.out _ T2; have c2 := (CC.out _ _ T2).2)
            go_roundg (j - 1)
            case measure => omega
            case rel => exact ⟨j - 1, swp dj j (j - 1), by go_num, by omega, by omega, Nat.le_refl _, T3, by rw [← HI.out, insInner_go lt a j dj hja hlv]; exact rfl⟩
          | false =>
            rw [hlv] at hl
            go_wp2_with (go_at_fn g; (refine hl.mono ?_); rintro e w2 ⟨rfl, T2⟩)
            go_roundg (b + 1 - (i + 1))
            case measure => omega
            case rel => exact ⟨i + 1, dj, by go_num, by omega, by omega, Nat.le_refl _, T2, out.out (Or.inr hlv)⟩
        · go_wp2
          go_roundg (b + 1 - (i + 1))
          case measure => omega
          case rel => exact ⟨i + 1, dj, by go_num, by omega, by omega, Nat.le_refl _, T, out.out (Or.inl (by omega))⟩
    · go_wp2
      go_end0
      refine ⟨rfl, BB.out _ _ ?_⟩
      unfold Sort.insertionSort
      rw [← HE.out, insOuter_stop _ _ _ _ _ hlt]
      exact T.out
end Go.Proofs.YtaodjnkjjmhecaaGreatDoor
namespace Go.Proofs.YtaodjnkjjmhecaaGreatDoor
open Go.Shelf Go.RowKit Go.Lib
open Go.Sort (swp)
set_option linter.unusedVariables false
set_option linter.unusedSimpArgs false
set_option linter.unusedSectionVars false
variable {α : Type} [Inhabited α]
structure Cn (S : Array α → World → Prop) (c : Nat) (w : World) (d : Array α) (t : Nat) (W : World) : Prop where
  s : S d W
  k : Keeps (fun k => k = c) w W
  o : ObjAt W c [.int .i64 (t : Int)]
section
variable {P : Program} {g : Nat} {lb : Array Value} {sf : Nat} {sb : Array Value} {lt : α → α → Bool} {n blk B : Nat} {S : Array α → World → Prop} {sw : Array α → World → Nat → Nat → World} {d : Array α} {w W W' : World} {c s : Nat}
theorem Cn.more {w' : World} (h : Cn S c w d s W) (hb : Below w'.heap.size w' w) : Cn S c w' d s W := ⟨h.s, (Keeps.new hb).trans h.k fun _ _ q => q, h.o⟩
theorem Cn.then {t : Nat} (h : Cn S c w d s W) (h2 : Cn S c W d t W') : Cn S c w d t W' := ⟨h2.s, h.k.trans h2.k fun _ _ q => q, h2.o⟩
theorem Cn.cell (h : Cn S c w d s W) {b i : Nat} {v : Value} (hne : b ≠ c) (hc : w.cell? ⟨b, i, none⟩ = some v) : W.cell? ⟨b, i, none⟩ = some v := h.k.cell hc hne
theorem Sorts.lessC (H : Sorts P g lb sf sb lt n blk B S sw) (h : Cn S c w d s W) (i j : Nat) (hi : i < n) (hj : j < n) :
    Calls P g (#[.int .i64 i, .int .i64 j] ++ lb) W fun e w' => e = .returned (.bool (lt d[i]! d[j]!)) ∧ Cn S c w d s w' :=
  (H.less i j h.s hi hj).mono fun _ _ ⟨he, hb⟩ => ⟨he, H.on h.s (.new hb), h.k.trans (Keeps.new hb) fun _ _ q => q, h.o.below hb h.o.lt⟩
theorem Sorts.bump (H : Sorts P g lb sf sb lt n blk B S sw) (hc : B ≤ c) (h : Cn S c w d s W) : Cn S c w d (s + 1) (W.setCell ⟨c, 0, none⟩ (.int .i64 ((s : Int) + 1))) :=
  ⟨H.on h.s ((Keeps.refl _ _).setCell (x := ⟨c, 0, none⟩) hc _), h.k.setCell (x := ⟨c, 0, none⟩) rfl _, by have := h.o.set 0 (.int .i64 ((s : Int) + 1)); simpa using this⟩
theorem Sorts.boxedC (H : Sorts P g lb sf sb lt n blk B S sw) (hS : S d w) (hO : ObjAt w c [.int .i64 (s : Int)]) (o : Obj) : Cn S c (w.alloc o) d s (w.alloc o) :=
  ⟨H.on hS (.new (below_alloc _ _)), .refl _ _, hO.below (below_alloc _ _) hO.lt⟩
end
set_option maxHeartbeats 8000000 in
set_option maxRecDepth 1000000 in
theorem sfOrder2 {P : Program} {ρ : Ren} {g : Nat} {lb : Array Value} {sf : Nat} {sb : Array Value} {lt : α → α → Bool} {n blk B : Nat} {S : Array α → World → Prop} {sw : Array α → World → Nat → Nat → World} (L : LaysGg.n39 P ρ) (H : Sorts P g lb sf sb lt n blk B S sw) (c a b s : Nat) (d : Array α) (w : World) (hS : S d w) (hc : B ≤ c) (hO : ObjAt w c [.int .i64 (s : Int)]) (ha : a < n) (hb : b < n) (hs : s < 4611686018427387904) :
    Calls P (ρ.f 39) #[.agg #[.func (.func g) #[] lb, .func (.func sf) #[] sb], .int .i64 a, .int .i64 b, .pointer (some ⟨c, 0, none⟩)] w fun e w' => e = .returned (.tuple #[.int .i64 (Sort.order2 lt d a b s).1, .int .i64 (Sort.order2 lt d a b s).2.1]) ∧ Cn S c w d (Sort.order2 lt d a b s).2.2 w' := by
  have mixed := L.mixed; have t0 := L.t0; have a0 := L.a0; have z0 := L.z0; have v0 := L.v0; have t3 := L.t3; have a3 := L.a3; have z3 := L.z3; have v3 := L.v3; have t4 := L.t4; have a4 := L.a4; have z4 := L.z4; have v4 := L.v4; have t26 := L.t26; have a26 := L.a26; have z26 := L.z26; have v26 := L.v26; have t37 := L.t37; have a37 := L.a37; have z37 := L.z37; have v37 := L.v37; have t44 := L.t44; have a44 := L.a44; have z44 := L.z44; have v44 := L.v44; have t64 := L.t64; have a64 := L.a64; have z64 := L.z64; have v64 := L.v64
  have u44 := run_underlying L.t44
  have eg := H.eg
  have hn := H.small
  have hcw : c < w.heap.size := hO.lt
  have hne : w.heap.size ≠ c := by omega
  obtain ⟨w1, hw1⟩ : ∃ x, w.alloc (.cells #[.func (.func g) #[] lb, .func (.func sf) #[] sb] (ρ.t 44)) = x := ⟨_, rfl⟩
  have TT : Aside (Cn S c w1 d s w1) := by subst hw1; exact H.boxedC hS hO _
  have CC : Hid (∀ (t : Nat) (W : World), Cn S c w1 d t W → W.cell? ⟨w.heap.size, 0, none⟩ = some (.func (.func g) #[] lb) ∧ W.cell? ⟨w.heap.size, 1, none⟩ = some (.func (.func sf) #[] sb)) :=
    fun t W h => ⟨h.cell hne (by rw [← hw1]; simp), h.cell hne (by rw [← hw1]; simp)⟩
  have BB : Hid (∀ (t : Nat) (W : World), Cn S c w1 d t W → Cn S c w d t W) := fun t W h => h.more (by rw [← hw1]; exact below_alloc _ _)
  have hl := H.lessC TT.out b a hb ha
  have c01 := CC.out _ _ TT.out
  obtain ⟨c0, c1⟩ := c01
  have UP : Hid (∀ W, Cn S c w1 d s W → Cn S c w d (s + 1) (W.setCell ⟨c, 0, none⟩ (.int .i64 ((s : Int) + 1)))) := fun W h => BB.out _ _ (H.bump hc h)
  go_enter L.f39, BodyGg.n39_ntmps ρ
  cases hlv : lt d[b]! d[a]! with
  | true =>
    rw [hlv] at hl
    have e2 : Sort.order2 lt d a b s = (b, a, s + 1) := by simp [Sort.order2, hlv]
    rw [e2]
    go_wp2_with (go_at_fn g; (refine hl.mono ?_); rintro e w2 ⟨rfl, T2⟩; have c2 := T2.o.cell 0 rfl; have f2 := T2.o.free 0)
    go_ret2
    exact ⟨rfl, UP.out _ T2⟩
  | false =>
    rw [hlv] at hl
    have e2 : Sort.order2 lt d a b s = (a, b, s) := by simp [Sort.order2, hlv]
    rw [e2]
    go_wp2_with (go_at_fn g; (refine hl.mono ?_); rintro e w2 ⟨rfl, T2⟩)
    go_ret2
    exact ⟨rfl, BB.out _ _ T2⟩
set_option maxHeartbeats 8000000 in
set_option maxRecDepth 1000000 in
theorem sfMedian {P : Program} {ρ : Ren} {g : Nat} {lb : Array Value} {sf : Nat} {sb : Array Value} {lt : α → α → Bool} {n blk B : Nat} {S : Array α → World → Prop} {sw : Array α → World → Nat → Nat → World} (L : LaysGg.n38 P ρ) (H : Sorts P g lb sf sb lt n blk B S sw) (c x y z s : Nat) (d : Array α) (w : World) (hS : S d w) (hc : B ≤ c) (hO : ObjAt w c [.int .i64 (s : Int)]) (hx : x < n) (hy : y < n) (hz : z < n) (hs : s + 3 < 4611686018427387904) :
    Calls P (ρ.f 38) #[.agg #[.func (.func g) #[] lb, .func (.func sf) #[] sb], .int .i64 x, .int .i64 y, .int .i64 z, .pointer (some ⟨c, 0, none⟩)] w fun e w' => e = .returned (.int .i64 (Sort.median lt d x y z s).1) ∧ Cn S c w d (Sort.median lt d x y z s).2 w' := by
  have mixed := L.mixed; have t0 := L.t0; have a0 := L.a0; have z0 := L.z0; have v0 := L.v0; have t3 := L.t3; have a3 := L.a3; have z3 := L.z3; have v3 := L.v3; have t4 := L.t4; have a4 := L.a4; have z4 := L.z4; have v4 := L.v4; have t26 := L.t26; have a26 := L.a26; have z26 := L.z26; have v26 := L.v26; have t37 := L.t37; have a37 := L.a37; have z37 := L.z37; have v37 := L.v37; have t44 := L.t44; have a44 := L.a44; have z44 := L.z44; have v44 := L.v44; have t64 := L.t64; have a64 := L.a64; have z64 := L.z64; have v64 := L.v64; have t67 := L.t67; have a67 := L.a67; have z67 := L.z67; have v67 := L.v67
  have u44 := run_underlying L.t44
  have eg := H.eg
  have hn := H.small
  have e39 : ∀ args w, (callFunc (ρ.f 39) args).run P w = .ok (.enter (ρ.f 39) args) w := enters_of L.f39 (by kernel_rfl) rfl
  have hcw : c < w.heap.size := hO.lt
  have hne : w.heap.size ≠ c := by omega
  obtain ⟨w1, hw1⟩ : ∃ x, w.alloc (.cells #[.func (.func g) #[] lb, .func (.func sf) #[] sb] (ρ.t 44)) = x := ⟨_, rfl⟩
  have TT : Aside (Cn S c w1 d s w1) := by subst hw1; exact H.boxedC hS hO _
  have CC : Hid (∀ (t : Nat) (W : World), Cn S c w1 d t W → W.cell? ⟨w.heap.size, 0, none⟩ = some (.func (.func g) #[] lb) ∧ W.cell? ⟨w.heap.size, 1, none⟩ = some (.func (.func sf) #[] sb)) :=
    fun t W h => ⟨h.cell hne (by rw [← hw1]; simp), h.cell hne (by rw [← hw1]; simp)⟩
  have BB : Hid (∀ (t : Nat) (W : World), Cn S c w1 d t W → Cn S c w d t W) := fun t W h => h.more (by rw [← hw1]; exact below_alloc _ _)
  obtain ⟨c0, c1⟩ := CC.out _ _ TT.out
  have l1 := order2_lt' lt d s hx hy
  have m1 := order2_swaps' lt d x y s
  obtain ⟨x1, y1, s1, H1⟩ : ∃ p q r, Sort.order2 lt d x y s = (p, q, r) := ⟨_, _, _, rfl⟩
  rw [H1] at l1 m1
  have l2 := order2_lt' lt d s1 l1.2 hz
  have m2 := order2_swaps' lt d y1 z s1
  obtain ⟨y2, z2, s2, H2⟩ : ∃ p q r, Sort.order2 lt d y1 z s1 = (p, q, r) := ⟨_, _, _, rfl⟩
  rw [H2] at l2 m2
  obtain ⟨x3, y3, s3, H3⟩ : ∃ p q r, Sort.order2 lt d x1 y2 s2 = (p, q, r) := ⟨_, _, _, rfl⟩
  have em : Sort.median lt d x y z s = (y3, s3) := by simp only [Sort.median, H1, H2, H3]
  rw [em]
  simp only at l1 l2 m1 m2
  have k1 : ∀ W, Cn S c w1 d (s) W → Calls P (ρ.f 39) #[.agg #[.func (.func g) #[] lb, .func (.func sf) #[] sb], .int .i64 (x : Nat), .int .i64 (y : Nat), .pointer (some ⟨c, 0, none⟩)] W fun e w' => e = .returned (.tuple #[.int .i64 (x1 : Nat), .int .i64 (y1 : Nat)]) ∧ Cn S c w1 d (s1) w' := fun W T => by
    have q := sfOrder2 (P := P) (ρ := ρ) { L with } H c (x) (y) (s) d W T.s hc T.o (by omega) (by omega) (by omega)
    rw [H1] at q
    exact q.mono fun _ _ ⟨he, hw⟩ => ⟨he, T.then hw⟩
  have k2 : ∀ W, Cn S c w1 d (s1) W → Calls P (ρ.f 39) #[.agg #[.func (.func g) #[] lb, .func (.func sf) #[] sb], .int .i64 (y1 : Nat), .int .i64 (z : Nat), .pointer (some ⟨c, 0, none⟩)] W fun e w' => e = .returned (.tuple #[.int .i64 (y2 : Nat), .int .i64 (z2 : Nat)]) ∧ Cn S c w1 d (s2) w' := fun W T => by
    have q := sfOrder2 (P := P) (ρ := ρ) { L with } H c (y1) (z) (s1) d W T.s hc T.o (by omega) (by omega) (by omega)
    rw [H2] at q
    exact q.mono fun _ _ ⟨he, hw⟩ => ⟨he, T.then hw⟩
  have k3 : ∀ W, Cn S c w1 d (s2) W → Calls P (ρ.f 39) #[.agg #[.func (.func g) #[] lb, .func (.func sf) #[] sb], .int .i64 (x1 : Nat), .int .i64 (y2 : Nat), .pointer (some ⟨c, 0, none⟩)] W fun e w' => e = .returned (.tuple #[.int .i64 (x3 : Nat), .int .i64 (y3 : Nat)]) ∧ Cn S c w1 d (s3) w' := fun W T => by
    have q := sfOrder2 (P := P) (ρ := ρ) { L with } H c (x1) (y2) (s2) d W T.s hc T.o (by omega) (by omega) (by omega)
    rw [H3] at q
    exact q.mono fun _ _ ⟨he, hw⟩ => ⟨he, T.then hw⟩
  have K1 : Hid _ := k1
  have K2 : Hid _ := k2
  have K3 : Hid _ := k3
  clear k1 k2 k3 H1 H2 H3 em
  go_enter L.f38, BodyGg.n38_ntmps ρ
  go_wp2_with (first
    | (go_at_fn_of (ρ.f 39) (Value.int .i64 (y : Int)); (refine (K1.out _ TT.out).mono ?_); rintro e w2 ⟨rfl, T2⟩; obtain ⟨c2, c3⟩ := CC.out _ _ T2)
    | (go_at_fn_of (ρ.f 39) (Value.int .i64 (z : Int)); (refine (K2.out _ T2).mono ?_); rintro e w3 ⟨rfl, T3⟩; obtain ⟨c4, c5⟩ := CC.out _ _ T3)
    | (go_at_fn_of (ρ.f 39) (Value.int .i64 (x1 : Int)); (refine (K3.out _ T3).mono ?_); rintro e w4 ⟨rfl, T4⟩))
  go_ret
  exact ⟨rfl, BB.out _ _ T4⟩
set_option maxHeartbeats 8000000 in
set_option maxRecDepth 1000000 in
theorem sfMedianAdj {P : Program} {ρ : Ren} {g : Nat} {lb : Array Value} {sf : Nat} {sb : Array Value} {lt : α → α → Bool} {n blk B : Nat} {S : Array α → World → Prop} {sw : Array α → World → Nat → Nat → World} (L : LaysGg.n37 P ρ) (H : Sorts P g lb sf sb lt n blk B S sw) (c x s : Nat) (d : Array α) (w : World) (hS : S d w) (hc : B ≤ c) (hO : ObjAt w c [.int .i64 (s : Int)]) (hx : 1 ≤ x) (hy : x + 1 < n) (hs : s + 3 < 4611686018427387904) :
    Calls P (ρ.f 37) #[.agg #[.func (.func g) #[] lb, .func (.func sf) #[] sb], .int .i64 x, .pointer (some ⟨c, 0, none⟩)] w fun e w' => e = .returned (.int .i64 (Sort.medianAdjacent lt d x s).1) ∧ Cn S c w d (Sort.medianAdjacent lt d x s).2 w' := by
  have mixed := L.mixed; have t0 := L.t0; have a0 := L.a0; have z0 := L.z0; have v0 := L.v0; have t3 := L.t3; have a3 := L.a3; have z3 := L.z3; have v3 := L.v3; have t4 := L.t4; have a4 := L.a4; have z4 := L.z4; have v4 := L.v4; have t26 := L.t26; have a26 := L.a26; have z26 := L.z26; have v26 := L.v26; have t37 := L.t37; have a37 := L.a37; have z37 := L.z37; have v37 := L.v37; have t44 := L.t44; have a44 := L.a44; have z44 := L.z44; have v44 := L.v44; have t64 := L.t64; have a64 := L.a64; have z64 := L.z64; have v64 := L.v64; have t67 := L.t67; have a67 := L.a67; have z67 := L.z67; have v67 := L.v67
  have u44 := run_underlying L.t44
  have eg := H.eg
  have hn := H.small
  have e38 : ∀ args w, (callFunc (ρ.f 38) args).run P w = .ok (.enter (ρ.f 38) args) w := enters_of L.f38 (by kernel_rfl) rfl
  have hcw : c < w.heap.size := hO.lt
  have hne : w.heap.size ≠ c := by omega
  obtain ⟨w1, hw1⟩ : ∃ x, w.alloc (.cells #[.func (.func g) #[] lb, .func (.func sf) #[] sb] (ρ.t 44)) = x := ⟨_, rfl⟩
  have TT : Aside (Cn S c w1 d s w1) := by subst hw1; exact H.boxedC hS hO _
  have CC : Hid (∀ (t : Nat) (W : World), Cn S c w1 d t W → W.cell? ⟨w.heap.size, 0, none⟩ = some (.func (.func g) #[] lb) ∧ W.cell? ⟨w.heap.size, 1, none⟩ = some (.func (.func sf) #[] sb)) :=
    fun t W h => ⟨h.cell hne (by rw [← hw1]; simp), h.cell hne (by rw [← hw1]; simp)⟩
  have BB : Hid (∀ (t : Nat) (W : World), Cn S c w1 d t W → Cn S c w d t W) := fun t W h => h.more (by rw [← hw1]; exact below_alloc _ _)
  obtain ⟨c0, c1⟩ := CC.out _ _ TT.out
  have hm := sfMedian (P := P) (ρ := ρ) { L with } H c (x - 1) x (x + 1) s d w1 TT.out.s hc TT.out.o (by omega) (by omega) (by omega) hs
  rw [show ((x - 1 : Nat) : Int) = (x : Int) - 1 by omega, show ((x + 1 : Nat) : Int) = (x : Int) + 1 by omega] at hm
  go_enter L.f37, BodyGg.n37_ntmps ρ
  go_wp2_with (go_at_fn (ρ.f 38); (refine hm.mono ?_); rintro e w2 ⟨rfl, T2⟩)
  go_ret
  exact ⟨rfl, BB.out _ _ T2⟩
set_option maxHeartbeats 8000000 in
set_option maxRecDepth 1000000 in
theorem sfPivot {P : Program} {ρ : Ren} {g : Nat} {lb : Array Value} {sf : Nat} {sb : Array Value} {lt : α → α → Bool} {n blk B : Nat} {S : Array α → World → Prop} {sw : Array α → World → Nat → Nat → World} (L : LaysGg.n29 P ρ) (H : Sorts P g lb sf sb lt n blk B S sw) (a b : Nat) (d : Array α) (w : World) (hS : S d w) (hab : a < b) (hb : b ≤ n) :
    Calls P (ρ.f 29) #[.agg #[.func (.func g) #[] lb, .func (.func sf) #[] sb], .int .i64 a, .int .i64 b] w fun e w' =>
      e = .returned (.tuple #[.int .i64 (Sort.choosePivot lt d a b).1, .int .i64 (Sort.hintCode (Sort.choosePivot lt d a b).2)]) ∧ Below w.heap.size w w' := by
  have mixed := L.mixed; have t0 := L.t0; have a0 := L.a0; have z0 := L.z0; have v0 := L.v0; have t3 := L.t3; have a3 := L.a3; have z3 := L.z3; have v3 := L.v3; have t4 := L.t4; have a4 := L.a4; have z4 := L.z4; have v4 := L.v4; have t26 := L.t26; have a26 := L.a26; have z26 := L.z26; have v26 := L.v26; have t37 := L.t37; have a37 := L.a37; have z37 := L.z37; have v37 := L.v37; have t44 := L.t44; have a44 := L.a44; have z44 := L.z44; have v44 := L.v44; have t53 := L.t53; have a53 := L.a53; have z53 := L.z53; have v53 := L.v53; have t64 := L.t64; have a64 := L.a64; have z64 := L.z64; have v64 := L.v64; have t67 := L.t67; have a67 := L.a67; have z67 := L.z67; have v67 := L.v67
  have u44 := run_underlying L.t44
  have eg := H.eg
  have hn := H.small
  have e37 : ∀ args w, (callFunc (ρ.f 37) args).run P w = .ok (.enter (ρ.f 37) args) w := enters_of L.f37 (by kernel_rfl) rfl
  have e38 : ∀ args w, (callFunc (ρ.f 38) args).run P w = .ok (.enter (ρ.f 38) args) w := enters_of L.f38 (by kernel_rfl) rfl
  have hB0 := H.base hS
  obtain ⟨c, hcd⟩ : ∃ c, c = w.heap.size + 1 := ⟨_, rfl⟩
  have hc : B ≤ c := by omega
  have hne : w.heap.size ≠ c := by omega
  obtain ⟨w1, hw1⟩ : ∃ x, (w.alloc (.cells #[.func (.func g) #[] lb, .func (.func sf) #[] sb] (ρ.t 44))).alloc (.cells #[.int .i64 0] (ρ.t 3)) = x := ⟨_, rfl⟩
  have hb1 : Below w.heap.size w w1 := by rw [← hw1]; exact (below_alloc _ _).trans ((below_alloc _ _).mono (by simp))
  have TT : Aside (Cn S c w1 d 0 w1) := by
    refine ⟨H.on hS (.new hb1), .refl _ _, ?_⟩
    have := ObjAt.new (w.alloc (.cells #[.func (.func g) #[] lb, .func (.func sf) #[] sb] (ρ.t 44))) #[.int .i64 0] (ρ.t 3)
    rw [hw1] at this
    rw [hcd]
    simpa using this
  have CC : Hid (∀ (t : Nat) (W : World), Cn S c w1 d t W → W.cell? ⟨w.heap.size, 0, none⟩ = some (.func (.func g) #[] lb) ∧ W.cell? ⟨w.heap.size, 1, none⟩ = some (.func (.func sf) #[] sb) ∧ W.cell? ⟨c, 0, none⟩ = some (.int .i64 (t : Int))) :=
    fun t W h => ⟨h.cell hne (by rw [← hw1, World.cell?_alloc_past _ _ _ (by simp)]; simp), h.cell hne (by rw [← hw1, World.cell?_alloc_past _ _ _ (by simp)]; simp), h.o.cell 0 rfl⟩
  have BB : Hid (∀ (t : Nat) (W : World), Cn S c w1 d t W → Below w.heap.size w W) := fun t W h => hb1.trans (h.k.below (by have := hb1.size; omega) (by intro k _ hk; omega))
  obtain ⟨c0, c1, c2⟩ := CC.out _ _ TT.out
  rw [Sort.choosePivot_eq]
  obtain ⟨I, hI⟩ : ∃ I : Nat, I = a + (b - a) / 4 * 1 := ⟨_, rfl⟩
  obtain ⟨J, hJ⟩ : ∃ J : Nat, J = a + (b - a) / 4 * 2 := ⟨_, rfl⟩
  obtain ⟨K, hK⟩ : ∃ K : Nat, K = a + (b - a) / 4 * 3 := ⟨_, rfl⟩
  have eI : ((a : Int) + ((b : Int) - (a : Int)) / 4) = (I : Int) := by omega
  have eJ : ((a : Int) + ((b : Int) - (a : Int)) / 4 * 2) = (J : Int) := by omega
  have eK : ((a : Int) + ((b : Int) - (a : Int)) / 4 * 3) = (K : Int) := by omega
  by_cases h8 : b - a ≥ 8
  · by_cases h50 : b - a ≥ 50
    · obtain ⟨i1, s1, h1⟩ : ∃ i1 s1, Sort.medianAdjacent lt d I 0 = (i1, s1) := ⟨_, _, rfl⟩
      obtain ⟨j1, s2, h2⟩ : ∃ j1 s2, Sort.medianAdjacent lt d J s1 = (j1, s2) := ⟨_, _, rfl⟩
      obtain ⟨k1, s3, h3⟩ : ∃ k1 s3, Sort.medianAdjacent lt d K s2 = (k1, s3) := ⟨_, _, rfl⟩
      obtain ⟨p, s, h4⟩ : ∃ p s, Sort.median lt d i1 j1 k1 s3 = (p, s) := ⟨_, _, rfl⟩
      have hraw : Sort.rawPivot lt d a b = (p, s) := by simp only [Sort.rawPivot, if_pos h8, if_pos h50, ← hI, ← hJ, ← hK, h1, h2, h3, h4]
      have m1 := Sort.medianAdjacent_mem lt d I 0; rw [h1] at m1
      have m2 := Sort.medianAdjacent_mem lt d J s1; rw [h2] at m2
      have m3 := Sort.medianAdjacent_mem lt d K s2; rw [h3] at m3
      have n1 := Sort.medianAdjacent_count lt d I 0; rw [h1] at n1
      have n2 := Sort.medianAdjacent_count lt d J s1; rw [h2] at n2
      have n3 := Sort.medianAdjacent_count lt d K s2; rw [h3] at n3
      simp only [] at m1 m2 m3 n1 n2 n3
      have k1' : Hid (∀ W, Cn S c w1 d 0 W → Calls P (ρ.f 37) #[.agg #[.func (.func g) #[] lb, .func (.func sf) #[] sb], .int .i64 (I : Int), .pointer (some ⟨c, 0, none⟩)] W fun e w' => e = .returned (.int .i64 (i1 : Int)) ∧ Cn S c w1 d s1 w') := fun W T => by
        have q := sfMedianAdj (P := P) (ρ := ρ) { L with } H c I 0 d W T.s hc T.o (by omega) (by omega) (by omega)
        rw [h1] at q; exact q.mono fun _ _ ⟨he, hw⟩ => ⟨he, T.then hw⟩
      have k2' : Hid (∀ W, Cn S c w1 d s1 W → Calls P (ρ.f 37) #[.agg #[.func (.func g) #[] lb, .func (.func sf) #[] sb], .int .i64 (J : Int), .pointer (some ⟨c, 0, none⟩)] W fun e w' => e = .returned (.int .i64 (j1 : Int)) ∧ Cn S c w1 d s2 w') := fun W T => by
        have q := sfMedianAdj (P := P) (ρ := ρ) { L with } H c J s1 d W T.s hc T.o (by omega) (by omega) (by omega)
        rw [h2] at q; exact q.mono fun _ _ ⟨he, hw⟩ => ⟨he, T.then hw⟩
      have k3' : Hid (∀ W, Cn S c w1 d s2 W → Calls P (ρ.f 37) #[.agg #[.func (.func g) #[] lb, .func (.func sf) #[] sb], .int .i64 (K : Int), .pointer (some ⟨c, 0, none⟩)] W fun e w' => e = .returned (.int .i64 (k1 : Int)) ∧ Cn S c w1 d s3 w') := fun W T => by
        have q := sfMedianAdj (P := P) (ρ := ρ) { L with } H c K s2 d W T.s hc T.o (by omega) (by omega) (by omega)
        rw [h3] at q; exact q.mono fun _ _ ⟨he, hw⟩ => ⟨he, T.then hw⟩
      have k4' : Hid (∀ W, Cn S c w1 d s3 W → Calls P (ρ.f 38) #[.agg #[.func (.func g) #[] lb, .func (.func sf) #[] sb], .int .i64 (i1 : Int), .int .i64 (j1 : Int), .int .i64 (k1 : Int), .pointer (some ⟨c, 0, none⟩)] W fun e w' => e = .returned (.int .i64 (p : Int)) ∧ Cn S c w1 d s w') := fun W T => by
        have q := sfMedian (P := P) (ρ := ρ) { L with } H c i1 j1 k1 s3 d W T.s hc T.o (by omega) (by omega) (by omega) (by omega)
        rw [h4] at q; exact q.mono fun _ _ ⟨he, hw⟩ => ⟨he, T.then hw⟩
      rw [hraw]
      obtain ⟨Hc, hHc⟩ : ∃ Hc : Int, Hc = Sort.hintCode (Sort.hintOf s) := ⟨_, rfl⟩
      have hh0 : s = 0 → Hc = 1 := fun h => by rw [hHc, h]; rfl
      have hh12 : s = 12 → Hc = 2 := fun h => by rw [hHc, h]; rfl
      have hhx : s ≠ 0 → s ≠ 12 → Hc = 0 := fun h1 h2 => by rw [hHc]; unfold Sort.hintOf; rw [if_neg h1, if_neg h2]; rfl
      show Calls P (ρ.f 29) _ w fun e w' => e = .returned (.tuple #[.int .i64 (p : Int), .int .i64 (Sort.hintCode (Sort.hintOf s))]) ∧ Below w.heap.size w w'
      rw [← hHc]
      clear hHc hraw
      clear h1 h2 h3 h4 hI hJ hK m1 m2 m3
      subst hcd
      go_enter L.f29, BodyGg.n29_ntmps ρ
      go_wp2_with (first
        | (go_at_fn_of (ρ.f 37) (Value.int .i64 (I : Int)); (refine (k1'.out _ TT.out).mono ?_); rintro e w2 ⟨rfl, T2⟩; obtain ⟨c3, c4, c5⟩ := CC.out _ _ T2)
        | (go_at_fn_of (ρ.f 37) (Value.int .i64 (J : Int)); (refine (k2'.out _ T2).mono ?_); rintro e w3 ⟨rfl, T3⟩; obtain ⟨c6, c7, c8⟩ := CC.out _ _ T3)
        | (go_at_fn_of (ρ.f 37) (Value.int .i64 (K : Int)); (refine (k3'.out _ T3).mono ?_); rintro e w4 ⟨rfl, T4⟩; obtain ⟨c9, c10, c11⟩ := CC.out _ _ T4)
        | (go_at_fn (ρ.f 38); (refine (k4'.out _ T4).mono ?_); rintro e w5 ⟨rfl, T5⟩; obtain ⟨c12, c13, c14⟩ := CC.out _ _ T5))
      all_goals
        go_ret2
        refine ⟨?_, BB.out _ _ T5⟩
        first
          | (have e0 : (s : Int) = 0 := of_beq_int (by assumption)
             rw [hh0 (by omega)]; rfl)
          | (have e1 : (s : Int) = 12 := of_beq_int (by assumption)
             rw [hh12 (by omega)]; rfl)
          | (have e0 : (s : Int) ≠ 0 := of_bne_int (by assumption)
             have e1 : (s : Int) ≠ 12 := of_bne_int (by assumption)
             rw [hhx (by omega) (by omega)]; rfl)
          | (rw [hh0 (by omega)]; rfl)
    · obtain ⟨p, s, h4⟩ : ∃ p s, Sort.median lt d I J K 0 = (p, s) := ⟨_, _, rfl⟩
      have hraw : Sort.rawPivot lt d a b = (p, s) := by simp only [Sort.rawPivot, if_pos h8, if_neg h50, ← hI, ← hJ, ← hK, h4]
      have k4' : Hid (∀ W, Cn S c w1 d 0 W → Calls P (ρ.f 38) #[.agg #[.func (.func g) #[] lb, .func (.func sf) #[] sb], .int .i64 (I : Int), .int .i64 (J : Int), .int .i64 (K : Int), .pointer (some ⟨c, 0, none⟩)] W fun e w' => e = .returned (.int .i64 (p : Int)) ∧ Cn S c w1 d s w') := fun W T => by
        have q := sfMedian (P := P) (ρ := ρ) { L with } H c I J K 0 d W T.s hc T.o (by omega) (by omega) (by omega) (by omega)
        rw [h4] at q; exact q.mono fun _ _ ⟨he, hw⟩ => ⟨he, T.then hw⟩
      rw [hraw]
      obtain ⟨Hc, hHc⟩ : ∃ Hc : Int, Hc = Sort.hintCode (Sort.hintOf s) := ⟨_, rfl⟩
      have hh0 : s = 0 → Hc = 1 := fun h => by rw [hHc, h]; rfl
      have hh12 : s = 12 → Hc = 2 := fun h => by rw [hHc, h]; rfl
      have hhx : s ≠ 0 → s ≠ 12 → Hc = 0 := fun h1 h2 => by rw [hHc]; unfold Sort.hintOf; rw [if_neg h1, if_neg h2]; rfl
      show Calls P (ρ.f 29) _ w fun e w' => e = .returned (.tuple #[.int .i64 (p : Int), .int .i64 (Sort.hintCode (Sort.hintOf s))]) ∧ Below w.heap.size w w'
      rw [← hHc]
      clear hHc hraw
      clear h4 hI hJ hK
      subst hcd
      go_enter L.f29, BodyGg.n29_ntmps ρ
      go_wp2_with (go_at_fn (ρ.f 38); (refine (k4'.out _ TT.out).mono ?_); rintro e w5 ⟨rfl, T5⟩; obtain ⟨c12, c13, c14⟩ := CC.out _ _ T5)
      all_goals
        go_ret2
        refine ⟨?_, BB.out _ _ T5⟩
        first
          | (have e0 : (s : Int) = 0 := of_beq_int (by assumption)
             rw [hh0 (by omega)]; rfl)
          | (have e1 : (s : Int) = 12 := of_beq_int (by assumption)
             rw [hh12 (by omega)]; rfl)
          | (have e0 : (s : Int) ≠ 0 := of_bne_int (by assumption)
             have e1 : (s : Int) ≠ 12 := of_bne_int (by assumption)
             rw [hhx (by omega) (by omega)]; rfl)
          | (rw [hh0 (by omega)]; rfl)
  · have hraw : Sort.rawPivot lt d a b = (J, 0) := by simp only [Sort.rawPivot, if_neg h8, ← hJ]
    rw [hraw]
    show Calls P (ρ.f 29) _ w fun e w' => e = .returned (.tuple #[.int .i64 (J : Int), .int .i64 1]) ∧ Below w.heap.size w w'
    have c2' : w1.cell? ⟨c, 0, none⟩ = some (.int .i64 0) := c2
    clear hraw hI hJ hK c2
    subst hcd
    go_enter L.f29, BodyGg.n29_ntmps ρ
    go_wp2
    go_ret2
    exact ⟨rfl, BB.out _ _ TT.out⟩
end Go.Proofs.YtaodjnkjjmhecaaGreatDoor
namespace Go.Proofs.YtaodjnkjjmhecaaGreatDoor
open Go.RowKit Go.Sort
set_option linter.unusedVariables false
set_option maxRecDepth 100000 in
theorem matchLessG (x y : ItemL) (w : World) :
    Calls Tryz.prog 94 #[.agg #[.string (str x.name), .string (str x.dom), .string (str x.path)], .agg #[.string (str y.name), .string (str y.dom), .string (str y.path)]] w fun e w' => e = .returned (.bool (keyLess x y)) ∧ Grows w w' := by
  obtain ⟨o1, o2, _⟩ := two_obj w #[.string (str x.name), .string (str x.dom), .string (str x.path)] #[.string (str y.name), .string (str y.dom), .string (str y.path)] 39 39
  have hg : Grows w ((w.alloc (.cells #[.string (str x.name), .string (str x.dom), .string (str x.path)] 39)).alloc (.cells #[.string (str y.name), .string (str y.dom), .string (str y.path)] 39)) := (Grows.alloc w _).trans (Grows.alloc _ _)
  have u0 := o1.cell 0 rfl; have u1 := o1.cell 1 rfl; have u2 := o1.cell 2 rfl
  have v0 := o2.cell 0 rfl; have v1 := o2.cell 1 rfl; have v2 := o2.cell 2 rfl
  have hk := str_toList
  unfold keyLess
  clear o1 o2
  by_cases h1 : x.name = y.name
  · have e1 : (x.name == y.name) = true := beq_iff_eq.2 h1
    rw [if_neg (by simp [h1])]
    by_cases h2 : x.dom = y.dom
    · have e2 : (x.dom == y.dom) = true := beq_iff_eq.2 h2
      rw [if_neg (by simp [h2])]
      clear h1 h2
      go_enter Tryz.func94, Tryz.ntmps94
      go_wp2
      go_ret
      exact ⟨rfl, hg⟩
    · have e2 : (x.dom == y.dom) = false := beq_eq_false_iff_ne.2 h2
      rw [if_pos h2]
      clear h1 h2
      go_enter Tryz.func94, Tryz.ntmps94
      go_wp2
      go_ret
      exact ⟨rfl, hg⟩
  · have e1 : (x.name == y.name) = false := beq_eq_false_iff_ne.2 h1
    rw [if_pos h1]
    clear h1
    go_enter Tryz.func94, Tryz.ntmps94
    go_wp2
    go_ret
    exact ⟨rfl, hg⟩
end Go.Proofs.YtaodjnkjjmhecaaGreatDoor
namespace Go.Proofs.YtaodjnkjjmhecaaGreatDoor
set_option linter.unusedVariables false
def itemK (k : KeyT) : ItemL := { ItemL.none with name := k.1, dom := k.2.1, path := k.2.2 }
def lessK (a b : KeyT) : Bool := keyLess (itemK a) (itemK b)
theorem kOf_itemK (k : KeyT) : kOf (itemK k) = k := rfl
theorem keyLess_k {a b : ItemL} : keyLess a b = lessK (kOf a) (kOf b) := rfl
theorem lessK_irrefl (a : KeyT) : lessK a a = false := (key_self (a := itemK a) (b := itemK a) (sameKey_iff.2 rfl)).1
theorem lessK_total {a b : KeyT} (h : a ≠ b) : lessK a b = !lessK b a := key_total (by
  cases c : sameKey (itemK a) (itemK b) with
  | false => rfl
  | true => exact absurd (sameKey_iff.1 c) h)
theorem lessK_trans {a b c : KeyT} (h1 : lessK a b = true) (h2 : lessK b c = true) : lessK a c = true := key_trans h1 h2
theorem swoK : Go.Sort.SWO lessK where
  irrefl := lessK_irrefl
  trans _ _ _ := lessK_trans
  ntrans x y z h1 h2 := by
    by_cases e1 : x = y
    · subst e1; exact h2
    · by_cases e2 : y = z
      · subst e2; exact h1
      · rw [lessK_total e1] at h1
        rw [lessK_total e2] at h2
        have h3 : lessK z x = true := lessK_trans (by simpa using h2) (by simpa using h1)
        cases h4 : lessK x z with
        | false => rfl
        | true =>
          have := lessK_trans h3 h4
          rw [lessK_irrefl] at this
          cases this
theorem asc_unique {α : Type} {r : α → α → Prop} (has : ∀ a b, r a b → r b a → False) : ∀ {l m : List α}, l.Pairwise r → m.Pairwise r → (∀ x, x ∈ l ↔ x ∈ m) → l = m
  | [], [], _, _, _ => rfl
  | [], y :: m, _, _, h => absurd ((h y).2 List.mem_cons_self) List.not_mem_nil
  | x :: l, [], _, _, h => absurd ((h x).1 List.mem_cons_self) List.not_mem_nil
  | x :: l, y :: m, hl, hm, h => by
    obtain ⟨h1, h2⟩ := List.pairwise_cons.1 hl
    obtain ⟨h3, h4⟩ := List.pairwise_cons.1 hm
    have irr : ∀ a, ¬ r a a := fun a c => has a a c c
    have e : x = y := by
      rcases List.mem_cons.1 ((h x).1 List.mem_cons_self) with e | hx
      · exact e
      · rcases List.mem_cons.1 ((h y).2 List.mem_cons_self) with e | hy
        · exact e.symm
        · exact (has _ _ (h3 x hx) (h1 y hy)).elim
    subst e
    refine congrArg _ (asc_unique has h2 h4 fun z => ⟨fun hz => ?_, fun hz => ?_⟩)
    · rcases List.mem_cons.1 ((h z).1 (List.mem_cons_of_mem _ hz)) with e | hz2
      · subst e; exact absurd (h1 _ hz) (irr _)
      · exact hz2
    · rcases List.mem_cons.1 ((h z).2 (List.mem_cons_of_mem _ hz)) with e | hz2
      · subst e; exact absurd (h3 _ hz) (irr _)
      · exact hz2
def ByKey (l : List EventN) : Prop := l.Pairwise fun a b => keyLess a.item b.item = true
theorem insK_is {l : List EventN} {e : EventN} (h : ByKey l) (hn : ∀ y ∈ l, kOf y.item ≠ kOf e.item) : ByKey (insK l e) ∧ ∀ z, z ∈ insK l e ↔ z = e ∨ z ∈ l := by
  have hmem : ∀ z, z ∈ insK l e ↔ z = e ∨ z ∈ l := fun z => by
    unfold insK
    rw [List.mem_append, List.mem_cons]
    conv => rhs; rw [← List.take_append_drop (frontK l e) l, List.mem_append]
    constructor
    · rintro (h | h | h)
      · exact .inr (.inl h)
      · exact .inl h
      · exact .inr (.inr h)
    · rintro (h | h | h)
      · exact .inr (.inl h)
      · exact .inl h
      · exact .inr (.inr h)
  refine ⟨?_, hmem⟩
  have hsp := List.take_append_drop (frontK l e) l
  have h' := h
  unfold ByKey at h'
  rw [← hsp, List.pairwise_append] at h'
  obtain ⟨ht, hd, htd⟩ := h'
  have hta : ∀ y ∈ l.take (frontK l e), keyLess y.item e.item = true := fun y hy => by
    obtain ⟨i, hi, rfl⟩ := List.getElem_of_mem hy
    rw [List.length_take] at hi
    have := List.not_of_lt_findIdx (p := fun y => !keyLess y.item e.item) (xs := l) (i := i) (by unfold frontK at hi; omega)
    rw [List.getElem_take]
    simpa using this
  have hda : ∀ y ∈ l.drop (frontK l e), keyLess e.item y.item = true := by
    cases hdr : l.drop (frontK l e) with
    | nil => exact fun y hy => absurd hy List.not_mem_nil
    | cons z t =>
      rw [hdr] at hd
      obtain ⟨hd1, -⟩ := List.pairwise_cons.1 hd
      have hlt : frontK l e < l.length := by
        rcases Nat.lt_or_ge (frontK l e) l.length with h | h
        · exact h
        · rw [List.drop_eq_nil_of_le h] at hdr; cases hdr
      have hz : l[frontK l e] = z := by
        have := List.drop_eq_getElem_cons hlt
        rw [hdr] at this
        exact (List.cons.inj this).1.symm
      have hzl : z ∈ l := hz ▸ List.getElem_mem hlt
      have hf := List.findIdx_getElem (p := fun y : EventN => !keyLess y.item e.item) (xs := l) (w := (show l.findIdx (fun y : EventN => !keyLess y.item e.item) < l.length from hlt))
      have hf2 : keyLess z.item e.item = false := by
        have : (!keyLess (l[frontK l e]).item e.item) = true := hf
        rw [hz] at this
        simpa using this
      have hez : keyLess e.item z.item = true := by
        rw [keyLess_k] at hf2 ⊢
        rw [lessK_total (Ne.symm (hn z hzl)), hf2]
        rfl
      intro y hy
      rcases List.mem_cons.1 hy with rfl | hy
      · exact hez
      · exact key_trans hez (hd1 y hy)
  unfold ByKey insK
  rw [List.pairwise_append]
  refine ⟨ht, List.pairwise_cons.2 ⟨hda, hd⟩, fun a ha b hb => ?_⟩
  rcases List.mem_cons.1 hb with rfl | hb
  · exact hta a ha
  · exact htd a ha b hb
theorem winners_fold {m : MapN} (hs : SortedE m.kept) : ∀ (L : List EventN) (out : List EventN), (∀ x ∈ L, x ∈ aliveM m) → L.Pairwise (fun a b => a.dot ≠ b.dot) → ByKey out → (∀ e ∈ out, winnerM m e.item = some e ∧ ∀ x ∈ L, x.dot ≠ e.dot) →
    ByKey (L.foldl (winStep m) out) ∧ ∀ e, e ∈ L.foldl (winStep m) out ↔ e ∈ out ∨ (e ∈ L ∧ winnerM m e.item = some e)
  | [], out, _, _, hb, _ => ⟨hb, fun e => by simp⟩
  | x :: L, out, hL, hp, hb, ho => by
    obtain ⟨hp1, hp2⟩ := List.pairwise_cons.1 hp
    have hxa := hL x List.mem_cons_self
    have hxk : x ∈ m.kept := by unfold aliveM at hxa; exact (List.mem_filter.1 hxa).1
    rw [List.foldl_cons]
    have skip : winStep m out x = out → winnerM m x.item ≠ some x → ByKey (L.foldl (winStep m) (winStep m out x)) ∧ ∀ e, e ∈ L.foldl (winStep m) (winStep m out x) ↔ e ∈ out ∨ (e ∈ x :: L ∧ winnerM m e.item = some e) := fun e1 e2 => by
      rw [e1]
      obtain ⟨r1, r2⟩ := winners_fold hs L out (fun y hy => hL y (List.mem_cons_of_mem _ hy)) hp2 hb fun e he => ⟨(ho e he).1, fun y hy => (ho e he).2 y (List.mem_cons_of_mem _ hy)⟩
      refine ⟨r1, fun e => ?_⟩
      rw [r2, List.mem_cons]
      constructor
      · rintro (h | ⟨h1, h2⟩)
        · exact .inl h
        · exact .inr ⟨.inr h1, h2⟩
      · rintro (h | ⟨rfl | h1, h2⟩)
        · exact .inl h
        · exact absurd h2 e2
        · exact .inr ⟨h1, h2⟩
    cases hw : winnerM m x.item with
    | none => exact skip (by unfold winStep; rw [hw]) (by rw [hw]; simp)
    | some e =>
      have hek : e ∈ keyM m x.item := by
        have := (best_max (keyM m x.item) none (by
          unfold keyM aliveM
          exact List.Pairwise.sublist (List.filter_sublist.trans List.filter_sublist) hs) (fun a ha => by cases ha)).1 e hw
        exact this.1.resolve_left (by simp)
      have hea : e ∈ m.kept ∧ kOf e.item = kOf x.item := by
        unfold keyM at hek
        obtain ⟨h1, h2⟩ := List.mem_filter.1 hek
        unfold aliveM at h1
        exact ⟨(List.mem_filter.1 h1).1, sameKey_iff.1 h2⟩
      by_cases hd : sameD e.dot x.dot = true
      · obtain rfl : e = x := one_dot hs hea.1 hxk (sameD_iff.1 hd)
        have hst : winStep m out e = insK out e := by unfold winStep; rw [hw]; simp only; rw [if_pos hd]
        have hkn : ∀ y ∈ out, kOf y.item ≠ kOf e.item := fun y hy c => by
          have h1 := (ho y hy).1
          have h2 : winnerM m y.item = winnerM m e.item := by
            unfold winnerM keyM
            refine congrArg (fun l => List.foldl bestM none l) (List.filter_congr fun z _ => ?_)
            cases h3 : sameKey z.item e.item with
            | true => exact sameKey_iff.2 ((sameKey_iff.1 h3).trans c.symm)
            | false =>
              cases h4 : sameKey z.item y.item with
              | false => rfl
              | true => rw [sameKey_iff.2 ((sameKey_iff.1 h4).trans c)] at h3; cases h3
          rw [h2, hw] at h1
          have := (ho y hy).2 e List.mem_cons_self
          rw [Option.some.inj h1] at this
          exact this rfl
        obtain ⟨i1, i2⟩ := insK_is hb hkn
        rw [hst]
        obtain ⟨r1, r2⟩ := winners_fold hs L (insK out e) (fun y hy => hL y (List.mem_cons_of_mem _ hy)) hp2 i1 fun z hz => by
          rcases (i2 z).1 hz with rfl | hz
          · exact ⟨hw, fun y hy => Ne.symm (hp1 y hy)⟩
          · exact ⟨(ho z hz).1, fun y hy => (ho z hz).2 y (List.mem_cons_of_mem _ hy)⟩
        refine ⟨r1, fun z => ?_⟩
        rw [r2, i2, List.mem_cons]
        constructor
        · rintro ((rfl | h) | ⟨h1, h2⟩)
          · exact .inr ⟨.inl rfl, hw⟩
          · exact .inl h
          · exact .inr ⟨.inr h1, h2⟩
        · rintro (h | ⟨rfl | h1, h2⟩)
          · exact .inl (.inr h)
          · exact .inl (.inl rfl)
          · exact .inr ⟨h1, h2⟩
      · refine skip (by unfold winStep; rw [hw]; simp only; rw [if_neg hd]) ?_
        rw [hw]
        intro c
        rw [Option.some.inj c] at hd
        exact hd (sameD_iff.2 rfl)
theorem winners_mem {m : MapN} (hs : SortedE m.kept) : ByKey (winnersM m) ∧ ∀ e, e ∈ winnersM m ↔ e ∈ aliveM m ∧ winnerM m e.item = some e := by
  have hp : (aliveM m).Pairwise (fun a b => a.dot ≠ b.dot) := by
    have h1 := List.pairwise_map.1 (sortedD_nodup (sortedE_dots hs))
    unfold aliveM
    exact List.Pairwise.sublist List.filter_sublist h1
  obtain ⟨h1, h2⟩ := winners_fold hs (aliveM m) [] (fun _ h => h) hp List.Pairwise.nil fun e he => absurd he List.not_mem_nil
  exact ⟨h1, fun e => by rw [winnersM, h2]; simp⟩
theorem winners_are {m : MapN} (hs : SortedE m.kept) {T : List KeyT} (hT : T.Pairwise fun x y => lessK y x = false) (hn : T.Nodup) (hm : ∀ k, k ∈ T ↔ ∃ e ∈ aliveM m, kOf e.item = k) (W : List EventN) (hW : W.map some = T.map fun k => winnerM m (itemK k)) : W = winnersM m := by
  obtain ⟨h1, h2⟩ := winners_mem hs
  have hwk : ∀ (x y : ItemL), kOf x = kOf y → winnerM m x = winnerM m y := fun x y c => by
    unfold winnerM keyM
    refine congrArg (fun l => List.foldl bestM none l) (List.filter_congr fun z _ => ?_)
    cases h3 : sameKey z.item y with
    | true => exact sameKey_iff.2 ((sameKey_iff.1 h3).trans c.symm)
    | false =>
      cases h4 : sameKey z.item x with
      | false => rfl
      | true => rw [sameKey_iff.2 ((sameKey_iff.1 h4).trans c)] at h3; cases h3
  have hin : ∀ (x : ItemL) e, winnerM m x = some e → e ∈ aliveM m ∧ kOf e.item = kOf x := fun x e hw => by
    have := (best_max (keyM m x) none (by
      unfold keyM aliveM
      exact List.Pairwise.sublist (List.filter_sublist.trans List.filter_sublist) hs) (fun a ha => by cases ha)).1 e hw
    have := this.1.resolve_left (by simp)
    unfold keyM at this
    obtain ⟨h1, h2⟩ := List.mem_filter.1 this
    exact ⟨h1, sameKey_iff.1 h2⟩
  have hWT : W.map (fun e => kOf e.item) = T := by
    have hlen : W.length = T.length := by have := congrArg List.length hW; simpa using this
    refine List.ext_getElem (by simpa using hlen) fun i h3 h4 => ?_
    have h5 : i < W.length := by simpa using h3
    have h6 : (W.map some)[i]'(by simpa using h5) = (T.map fun k => winnerM m (itemK k))[i]'(by simpa using h4) := by simp only [hW]
    rw [List.getElem_map, List.getElem_map] at h6
    have := (hin _ _ h6.symm).2
    rw [List.getElem_map, this, kOf_itemK]
  have hmem : ∀ e, e ∈ W ↔ e ∈ winnersM m := fun e => by
    rw [h2]
    constructor
    · intro he
      have h3 : some e ∈ W.map some := List.mem_map.2 ⟨e, he, rfl⟩
      rw [hW] at h3
      obtain ⟨k, hk, hw⟩ := List.mem_map.1 h3
      obtain ⟨h4, h5⟩ := hin _ _ hw
      exact ⟨h4, (hwk _ _ h5).trans hw⟩
    · rintro ⟨ha, hw⟩
      have h3 : some e ∈ T.map fun k => winnerM m (itemK k) := List.mem_map.2 ⟨kOf e.item, (hm _).2 ⟨e, ha, rfl⟩, (hwk _ _ (kOf_itemK _)).trans hw⟩
      rw [← hW] at h3
      obtain ⟨y, hy, e1⟩ := List.mem_map.1 h3
      exact Option.some.inj e1 ▸ hy
  have hWb : ByKey W := by
    have h3 : T.Pairwise fun x y => lessK x y = true := by
      refine List.Pairwise.imp₂ ?_ hT hn
      intro a b h4 h5
      rw [lessK_total h5, h4]
      rfl
    rw [← hWT] at h3
    exact List.pairwise_map.1 h3
  refine asc_unique (r := fun (a b : EventN) => keyLess a.item b.item = true) (fun a b h3 h4 => ?_) hWb h1 hmem
  have := key_trans h3 h4
  rw [keyLess_k, lessK_irrefl] at this
  cases this
end Go.Proofs.YtaodjnkjjmhecaaGreatDoor
