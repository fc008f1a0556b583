/- Contracts and plain words that the laws' proofs stand on. -/
import Derived.Test.YtaodjnkjjmhecaaGreatDoorShort
import Derived.Test.YtaodjnkjjmhecaaGreatDoorLibAV
import Derived.Test.YtaodjnkjjmhecaaGreatDoorLibAD
namespace Go.Proofs.YtaodjnkjjmhecaaGreatDoor
open Go.RowKit
set_option linter.unusedVariables false
def leapB (y : Int) : Bool := (y.tmod 4 == 0 && !(y.tmod 100 == 0)) || y.tmod 400 == 0
def mlen : List Int := [31, 28, 31, 30, 31, 30, 31, 31, 30, 31, 30, 31]
def longI (y : Int) (M : Nat) : Int := if M = 1 ∧ leapB y = true then 29 else mlen.getD M 0
def mdays (y : Int) : Nat → Int
  | 0 => 0
  | M + 1 => mdays y M + longI y M
def aheadI (y : Int) : Int := (y - 1) * 365 + (y - 1) / 4 - (y - 1) / 100 + (y - 1) / 400
def startI (y : Int) : Int := aheadI y - 719162
def daysI (y : Int) (M : Nat) (d : Int) : Int := startI y + mdays y M + d - 1
def yearUp (y : Nat) : Nat := if y < 70 then y + 2000 else if y < 100 then y + 1900 else y
def tells (h mi se d m y : Nat) : Int × Bool :=
  if h ≤ 23 ∧ mi ≤ 59 ∧ se ≤ 59 ∧ 1601 ≤ yearUp y ∧ yearUp y ≤ 9999 ∧ 1 ≤ d ∧ (d : Int) ≤ longI (yearUp y) (m - 1)
  then (daysI (yearUp y) (m - 1) d * 86400 + (h : Int) * 3600 + (mi : Int) * 60 + (se : Int), true) else (0, false)
structure StepR where
  kind : Int
  r : EvR
instance : Inhabited StepR := ⟨⟨0, default⟩⟩
def encS (s : StepR) : List Value := .int .i64 s.kind :: encE s.r
theorem step_at {w : World} {a : Option Addr} {n c : Nat} {P : List StepR} (h : RowOf encS 20 w a n c P) (k : Nat) (hk : k < n) :
    ∃ (s : StepR) (g off : Nat) (A : Array Value), P[k]? = some s ∧ a = some ⟨g, off, none⟩ ∧ (encE s.r).toArray = A ∧ A.size = 19 ∧ A.toList = encE s.r ∧ w.cell? ⟨g, off + k * 20, none⟩ = some (.int .i64 s.kind) ∧ CellsAt w g (off + k * 20 + 1) A.toList ∧
      ∀ w', Below w.heap.size w w' → w'.cell? ⟨g, off + k * 20, none⟩ = some (.int .i64 s.kind) ∧ CellsAt w' g (off + k * 20 + 1) A.toList := by
  obtain ⟨s, g, off, h1, h2, h3⟩ := h.at k hk
  have H : ∀ (j : Nat) (v : Value), (encE s.r)[j]? = some v → w.cell? ⟨g, off + k * 20 + 1 + j, none⟩ = some v := fun j v hv => by
    have := h3 (j + 1) v (by unfold encS; rw [List.getElem?_cons_succ]; exact hv)
    rw [show off + k * 20 + 1 + j = off + k * 20 + (j + 1) from by omega]
    exact this
  have H0 := h3 0 _ rfl
  exact ⟨s, g, off, _, h1, h2, rfl, rfl, rfl, H0, fun j v hv => H j v (by simpa using hv), fun w' hb => ⟨(hb.cell (cell_lt H0)).trans H0, fun j v hv => by
    have h4 := H j v (by simpa using hv)
    exact (hb.cell (cell_lt h4)).trans h4⟩⟩
set_option maxHeartbeats 1000000 in
set_option maxRecDepth 100000 in
theorem sLightC (a : Option Addr) (n c : Nat) (most : Int) (L : List StepR) (w : World) (hL : RowOf encS 20 w a n c L) (hT : ∀ s ∈ L, s.r.e.item.name.length ≤ maxLen ∧ s.r.e.item.dom.length ≤ maxLen ∧ s.r.e.item.path.length ≤ maxLen ∧ s.r.e.item.val.length ≤ maxLen) :
    Calls Tryz.prog 15 #[.slice a n c, .int .i64 most] w fun en w' => en = .returned (.bool (decide ((L.length : Int) ≤ most) && L.all fun s => lightE s.r.e)) ∧ Below w.heap.size w w' := by
  have hcl := hL.cle
  have hcm := hL.capm
  unfold maxLen at hcm
  have hb0 := Below.refl w.heap.size w
  have hlq := hL.leq
  rw [hlq]
  by_cases h : most < (n : Int)
  · have e : decide ((n : Int) ≤ most) = false := decide_eq_false (by omega)
    rw [e]
    have e1 : decide (most < (n : Int)) = true := decide_eq_true h
    clear hL hT hlq
    go_enter Tryz.func15, Tryz.ntmps15
    go_wp2
    go_ret
    exact ⟨rfl, hb0⟩
  · have e : decide ((n : Int) ≤ most) = true := decide_eq_true (by omega)
    rw [e, Bool.true_and]
    have e1 : decide (most < (n : Int)) = false := decide_eq_false h
    have HL := Lib.hid hL
    have HQ := Lib.hid hlq
    clear hL hlq e
    go_enter Tryz.func15, Tryz.ntmps15
    go_wp2
    go_loopw [5] (fun i wr => ∃ k : Nat, k ≤ n ∧ i = .int .i64 (k : Int) ∧ Hid (((L.take k).all fun s => lightE s.r.e) = true) ∧ Below w.heap.size w wr) (fun i _ => n - (intOf i).toNat)
    case atStart => exact ⟨0, Nat.zero_le _, rfl, rfl, hb0⟩
    case round =>
      clear hb0
      obtain ⟨k, hk, rfl, ht, hb⟩ := hrel
      by_cases hlt : k < n
      · have hlt' : (k : Int) < (n : Int) := by omega
        have i1 : (0 : Int) ≤ (k : Int) := by omega
        obtain ⟨x, g1, f1, A, e2, rfl, hA, zA, lA, cK, cA, kA⟩ := step_at (HL.out.below hb) k hlt
        have hx := hT x (List.mem_of_getElem? e2)
        have HLI : ∀ v, Calls Tryz.prog 41 #[.agg A] v fun en w' => en = .returned (.bool (lightE x.r.e)) ∧ Below v.heap.size v w' := fun v => by
          rw [← hA]
          exact refELightC x.r.e x.r.a x.r.e.over.length x.r.c v rfl hx.1 hx.2.1 hx.2.2.1 hx.2.2.2
        have hst : ((L.take (k + 1)).all fun s => lightE s.r.e) = (((L.take k).all fun s => lightE s.r.e) && lightE x.r.e) := by
          obtain ⟨h1, h2⟩ := List.getElem?_eq_some_iff.1 e2
          rw [List.take_succ_eq_append_getElem h1, List.all_append, h2]
          simp
        have hno : lightE x.r.e = false → (L.all fun s => lightE s.r.e) = false := fun hf => by
          rw [List.all_eq_false]
          exact ⟨x, List.mem_of_getElem? e2, by rw [hf]; exact Bool.noConfusion⟩
        rw [ht.out, Bool.true_and] at hst
        have HST := Lib.hid (And.intro hst hno)
        have hB1 : Below wr.heap.size wr wr := Below.refl _ wr
        generalize lightE x.r.e = T at *
        clear hA lA kA e2 hst hno hx
        cases T with
        | true =>
          have HN := Lib.hid HST.out.1
          clear HST ht
          go_wp2_with (first
            | (refine wpList_loadRow rfl 43 _ rfl g1 (f1 + k * 20 + 1) 19 A rfl cA Tryz.isAgg43 Tryz.sizeOf43 zA ?_)
            | (go_at_call 41; (with_reducible refine (HLI _).mono ?_); rintro ex wx ⟨rfl, hx⟩; have hB1 := hB1.trans (hx.mono hB1.size); clear hx))
          go_roundw
          case rel => exact ⟨k + 1, by omega, by go_num, HN, hb.trans (hB1.mono hb.size)⟩
          case measure => simp [intOf]; omega
        | false =>
          have HN := Lib.hid (HST.out.2 rfl)
          clear HST ht
          go_wp2_with (first
            | (refine wpList_loadRow rfl 43 _ rfl g1 (f1 + k * 20 + 1) 19 A rfl cA Tryz.isAgg43 Tryz.sizeOf43 zA ?_)
            | (go_at_call 41; (with_reducible refine (HLI _).mono ?_); rintro ex wx ⟨rfl, hx⟩; have hB1 := hB1.trans (hx.mono hB1.size); clear hx))
          go_ret
          exact ⟨by rw [HN.out]; rfl, hb.trans (hB1.mono hb.size)⟩
      · obtain rfl : k = n := by omega
        have e : Hid ((L.all fun s => lightE s.r.e) = true) := by
          unfold Hid
          have := ht.out
          rwa [List.take_of_length_le (by rw [HQ.out]; exact Nat.le_refl _)] at this
        go_wp2
        go_ret
        exact ⟨by rw [e.out]; rfl, hb⟩
def findE (l : List EventN) (d : DotN) : Nat := l.findIdx fun e => sameD e.dot d
def forgetM (m : MapN) (d : DotN) : MapN × Bool :=
  match m.kept[findE m.kept d]? with
  | none => (m, false)
  | some e => if (e.kind == 1 && !hasD m.dead d) = true then (m, false) else (⟨m.ctx, m.kept.eraseIdx (findE m.kept d), m.dead⟩, true)
def bareM (m : MapN) (d : DotN) : MapN × Bool :=
  match m.kept[findE m.kept d]? with
  | none => (m, false)
  | some e => if e.kind = 1 ∧ 0 < e.over.length then (⟨m.ctx, m.kept.set (findE m.kept d) { e with over := [] }, m.dead⟩, true) else (m, false)
def clearM (m : MapN) (d : DotN) : MapN × Bool :=
  if hasD m.dead d = true ∧ hasV m.ctx d = true ∧ m.kept.length ≤ findE m.kept d then (⟨m.ctx, m.kept, m.dead.filter fun y => !sameD y d⟩, true) else (m, false)
theorem sortedE_unique : ∀ {a b : List EventN}, SortedE a → SortedE b → (∀ x, x ∈ a ↔ x ∈ b) → a = b
  | [], [], _, _, _ => rfl
  | [], y :: b, _, _, h => absurd ((h y).2 (List.mem_cons_self ..)) (by simp)
  | x :: a, [], _, _, h => absurd ((h x).1 (List.mem_cons_self ..)) (by simp)
  | x :: a, y :: b, ha, hb, h => by
    obtain ⟨ha1, ha2⟩ := List.pairwise_cons.1 ha
    obtain ⟨hb1, hb2⟩ := List.pairwise_cons.1 hb
    have hxy : x = y := by
      rcases List.mem_cons.1 ((h x).1 (List.mem_cons_self ..)) with e | e
      · exact e
      · rcases List.mem_cons.1 ((h y).2 (List.mem_cons_self ..)) with e2 | e2
        · exact e2.symm
        · have := lessD_asymm (hb1 x e)
          rw [ha1 y e2] at this
          cases this
    subst hxy
    have no : ∀ {t : List EventN}, (∀ z ∈ t, lessD x.dot z.dot = true) → x ∉ t := fun ht hx => by
      have := ht x hx
      rw [lessD_irrefl] at this
      cases this
    rw [sortedE_unique ha2 hb2 fun z => ?_]
    constructor
    · intro hz
      rcases List.mem_cons.1 ((h z).1 (List.mem_cons_of_mem _ hz)) with e | e
      · subst e
        exact absurd hz (no ha1)
      · exact e
    · intro hz
      rcases List.mem_cons.1 ((h z).2 (List.mem_cons_of_mem _ hz)) with e | e
      · subst e
        exact absurd hz (no hb1)
      · exact e
set_option maxRecDepth 100000 in
theorem refKeyLessC (x y : ItemL) (w : World) :
    Calls Tryz.prog 122 #[.agg #[.string (str x.name), .string (str x.dom), .string (str x.path)], .agg #[.string (str y.name), .string (str y.dom), .string (str y.path)]] w fun e w' => e = .returned (.bool (keyLess x y)) ∧ Below w.heap.size w w' := by
  obtain ⟨o1, o2, hb⟩ := two_obj w #[.string (str x.name), .string (str x.dom), .string (str x.path)] #[.string (str y.name), .string (str y.dom), .string (str y.path)] 39 39
  have u0 := o1.cell 0 rfl; have u1 := o1.cell 1 rfl; have u2 := o1.cell 2 rfl
  have v0 := o2.cell 0 rfl; have v1 := o2.cell 1 rfl; have v2 := o2.cell 2 rfl
  have hk := str_toList
  unfold keyLess
  clear o1 o2
  by_cases h1 : x.name = y.name
  · have e1 : (x.name == y.name) = true := beq_iff_eq.2 h1
    rw [if_neg (by simp [h1])]
    by_cases h2 : x.dom = y.dom
    · have e2 : (x.dom == y.dom) = true := beq_iff_eq.2 h2
      rw [if_neg (by simp [h2])]
      clear h1 h2
      go_enter Tryz.func122, Tryz.ntmps122
      go_wp2
      go_ret
      exact ⟨rfl, hb⟩
    · have e2 : (x.dom == y.dom) = false := beq_eq_false_iff_ne.2 h2
      rw [if_pos h2]
      clear h1 h2
      go_enter Tryz.func122, Tryz.ntmps122
      go_wp2
      go_ret
      exact ⟨rfl, hb⟩
  · have e1 : (x.name == y.name) = false := beq_eq_false_iff_ne.2 h1
    rw [if_pos h1]
    clear h1
    go_enter Tryz.func122, Tryz.ntmps122
    go_wp2
    go_ret
    exact ⟨rfl, hb⟩
def keptF (c : List DotN) : Option DotN → List EventN → Int
  | _, [] => 0
  | pr, e :: t => if rightE e = false then 1 else if (pr.map fun z => lessD z e.dot) = some false then 6 else if hasV c e.dot = false then 4 else keptF c (some e.dot) t
def deadF : Option DotN → List DotN → Int
  | _, [] => 0
  | pr, d :: t => if rightD d = false then 4 else if (pr.map fun z => lessD z d) = some false then 6 else deadF (some d) t
def loadM (m : MapN) : Int :=
  if checkV m.ctx ≠ 0 then checkV m.ctx
  else if 2048 < m.kept.length ∨ 65536 < m.dead.length then 3
  else if keptF m.ctx none m.kept ≠ 0 then keptF m.ctx none m.kept
  else deadF none m.dead
theorem forget_oks {m : MapN} (d : DotN) (h : OkMs m) : OkMs (forgetM m d).1 ∧ (forgetM m d).1.kept.length ≤ m.kept.length := by
  unfold forgetM
  split
  · exact ⟨h, Nat.le_refl _⟩
  · split
    · exact ⟨h, Nat.le_refl _⟩
    · have hs := List.eraseIdx_sublist m.kept (findE m.kept d)
      exact ⟨⟨⟨h.ok.ctx, List.Pairwise.sublist hs h.ok.kept, fun e he => h.ok.dots e (hs.subset he)⟩, fun e he => h.right e (hs.subset he), h.dead, h.rdead⟩, hs.length_le⟩
theorem bare_right {e : EventN} (h : rightE e = true) (hk : e.kind = 1) : rightE { e with over := [] } = true := by
  unfold rightE headE kindE at h ⊢
  rw [if_pos hk] at h
  rw [if_pos (show ({ e with over := [] } : EventN).kind = 1 from hk)]
  simp only [Bool.and_eq_true, decide_eq_true_eq] at h ⊢
  exact ⟨⟨h.1.1, h.1.2.1, h.1.2.2.1, Nat.zero_le _⟩, rfl, h.2.2⟩
theorem pairwise_set {α : Type} {R : α → α → Prop} : ∀ {l : List α} {i : Nat} {x y : α}, l.Pairwise R → l[i]? = some x → (∀ z, R z x → R z y) → (∀ z, R x z → R y z) → (l.set i y).Pairwise R
  | [], i, x, y, _, h, _, _ => by cases h
  | a :: t, 0, x, y, h, hi, _, h2 => by
    cases hi
    obtain ⟨h3, h4⟩ := List.pairwise_cons.1 h
    exact List.pairwise_cons.2 ⟨fun z hz => h2 z (h3 z hz), h4⟩
  | a :: t, i + 1, x, y, h, hi, h1, h2 => by
    obtain ⟨h3, h4⟩ := List.pairwise_cons.1 h
    rw [List.getElem?_cons_succ] at hi
    rw [List.set_cons_succ]
    refine List.pairwise_cons.2 ⟨fun z hz => ?_, pairwise_set h4 hi h1 h2⟩
    rcases List.mem_or_eq_of_mem_set hz with hz | rfl
    · exact h3 z hz
    · exact h1 a (h3 x (List.mem_of_getElem? hi))
theorem bare_oks {m : MapN} (d : DotN) (h : OkMs m) : OkMs (bareM m d).1 ∧ (bareM m d).1.kept.length ≤ m.kept.length := by
  unfold bareM
  split
  · exact ⟨h, Nat.le_refl _⟩
  · rename_i e he
    have hm := List.mem_of_getElem? he
    split
    · rename_i hk
      refine ⟨⟨⟨h.ok.ctx, pairwise_set h.ok.kept he (fun z hz => hz) (fun z hz => hz), fun y hy => ?_⟩, fun y hy => ?_, h.dead, h.rdead⟩, Nat.le_of_eq (List.length_set ..)⟩
      · rcases List.mem_or_eq_of_mem_set hy with hy | rfl
        · exact h.ok.dots y hy
        · exact h.ok.dots e hm
      · rcases List.mem_or_eq_of_mem_set hy with hy | rfl
        · exact h.right y hy
        · exact bare_right (h.right e hm) hk.1
    · exact ⟨h, Nat.le_refl _⟩
theorem clear_oks {m : MapN} (d : DotN) (h : OkMs m) : OkMs (clearM m d).1 ∧ (clearM m d).1.kept.length ≤ m.kept.length := by
  unfold clearM
  split
  · exact ⟨⟨⟨h.ok.ctx, h.ok.kept, h.ok.dots⟩, h.right, List.Pairwise.filter _ h.dead, fun x hx => h.rdead x (List.mem_filter.1 hx).1⟩, Nat.le_refl _⟩
  · exact ⟨h, Nat.le_refl _⟩
theorem keptF_zero (c : List DotN) : ∀ (L : List EventN) (pr : Option DotN), SortedE L → (∀ e ∈ L, rightE e = true ∧ hasV c e.dot = true) → (∀ z, pr = some z → ∀ e ∈ L, lessD z e.dot = true) → keptF c pr L = 0
  | [], _, _, _, _ => rfl
  | e :: t, pr, hs, hr, hp => by
    obtain ⟨h1, h2⟩ := List.pairwise_cons.1 hs
    have he := hr e (List.mem_cons_self ..)
    unfold keptF
    rw [if_neg (by rw [he.1]; exact Bool.noConfusion), if_neg (fun c => ?_), if_neg (by rw [he.2]; exact Bool.noConfusion)]
    · exact keptF_zero _ t _ h2 (fun y hy => hr y (List.mem_cons_of_mem _ hy)) fun z hz y hy => by cases hz; exact h1 y hy
    · cases pr with
      | none => cases c
      | some z =>
        rw [Option.map_some, hp z rfl e (List.mem_cons_self ..)] at c
        cases c
theorem deadF_zero : ∀ (L : List DotN) (pr : Option DotN), SortedD L → (∀ d ∈ L, rightD d = true) → (∀ z, pr = some z → ∀ d ∈ L, lessD z d = true) → deadF pr L = 0
  | [], _, _, _, _ => rfl
  | d :: t, pr, hs, hr, hp => by
    obtain ⟨h1, h2⟩ := List.pairwise_cons.1 hs
    unfold deadF
    rw [if_neg (by rw [hr d (List.mem_cons_self ..)]; exact Bool.noConfusion), if_neg (fun c => ?_)]
    · exact deadF_zero t _ h2 (fun y hy => hr y (List.mem_cons_of_mem _ hy)) fun z hz y hy => by cases hz; exact h1 y hy
    · cases pr with
      | none => cases c
      | some z =>
        rw [Option.map_some, hp z rfl d (List.mem_cons_self ..)] at c
        cases c
theorem load_zero {m : MapN} (h : OkMs m) (h1 : m.ctx.length ≤ 4096) (h2 : m.kept.length ≤ 2048) (h3 : m.dead.length ≤ 65536) : loadM m = 0 := by
  unfold loadM
  have e1 : checkV m.ctx = 0 := by
    unfold checkV
    rw [if_neg (by omega)]
    exact chkF_zero _ _ h.ok.ctx.ord h.ok.ctx.right fun z hz => by cases hz
  have e2 : keptF m.ctx none m.kept = 0 := keptF_zero _ _ _ h.ok.kept (fun e he => ⟨h.right e he, by
    unfold hasV
    rw [right_dotE (h.right e he), Bool.true_and, decide_eq_true_iff]
    exact h.ok.dots e he⟩) fun z hz => by cases hz
  rw [e1, if_neg (fun c => c rfl), if_neg (by omega), e2, if_neg (fun c => c rfl)]
  exact deadF_zero _ _ h.dead h.rdead fun z hz => by cases hz
theorem filter_erase {α : Type} {p : α → Bool} : ∀ {l : List α} {i : Nat} {x : α}, l[i]? = some x → p x = false → (l.eraseIdx i).filter p = l.filter p
  | [], i, x, h, _ => by cases h
  | a :: t, 0, x, h, hp => by
    cases h
    rw [List.eraseIdx_zero, List.tail_cons, List.filter_cons, if_neg (by rw [hp]; decide)]
  | a :: t, i + 1, x, h, hp => by
    rw [List.getElem?_cons_succ] at h
    rw [List.eraseIdx_cons_succ, List.filter_cons, List.filter_cons, filter_erase h hp]
theorem dotsK_forget {K : List EventN} {D : List DotN} {i : Nat} {e : EventN} (h : K[i]? = some e) (ha : aliveB D e = false) (k : KeyT) : dotsK (K.eraseIdx i) D k = dotsK K D k := by
  unfold dotsK
  rw [filter_erase h (by rw [ha]; rfl)]
theorem map_set {α β : Type} {f : α → β} {p : α → Bool} : ∀ {l : List α} {i : Nat} {x y : α}, l[i]? = some x → p y = p x → f y = f x → ((l.set i y).filter p).map f = (l.filter p).map f
  | [], i, x, y, h, _, _ => by cases h
  | a :: t, 0, x, y, h, hp, hf => by
    cases h
    rw [List.set_cons_zero, List.filter_cons, List.filter_cons, hp]
    split
    · rw [List.map_cons, List.map_cons, hf]
    · rfl
  | a :: t, i + 1, x, y, h, hp, hf => by
    rw [List.getElem?_cons_succ] at h
    rw [List.set_cons_succ, List.filter_cons, List.filter_cons]
    have ih := map_set (f := f) (p := p) (l := t) h hp hf
    split
    · rw [List.map_cons, List.map_cons, ih]
    · exact ih
theorem dotsK_bare {K : List EventN} {D : List DotN} {i : Nat} {e : EventN} (h : K[i]? = some e) (k : KeyT) : dotsK (K.set i { e with over := [] }) D k = dotsK K D k :=
  map_set h rfl rfl
theorem dotsK_clear {K : List EventN} {D : List DotN} {d : DotN} (h : ∀ e ∈ K, e.dot ≠ d) (k : KeyT) : dotsK K (D.filter fun y => !sameD y d) k = dotsK K D k := by
  unfold dotsK
  congr 1
  refine List.filter_congr fun e he => ?_
  have h1 : hasD (D.filter fun y => !sameD y d) e.dot = hasD D e.dot := by
    rw [out_hasD, Bool.eq_false_iff.2 fun c => h e he (sameD_iff.1 c)]
    cases hasD D e.dot <;> rfl
  unfold aliveB
  rw [h1]
theorem find_look {rs : List EvR} (hs : SortedE (rs.map (·.e))) (d : DotN) : (rs.map (·.e))[findE (rs.map (·.e)) d]? = (lookR rs d).map (·.e) := by
  cases h : lookR rs d with
  | none =>
    rw [List.getElem?_eq_none]
    · rfl
    · unfold findE
      rw [List.findIdx_eq_length.2 fun e he => ?_]
      · exact Nat.le_refl _
      · obtain ⟨r, hr, rfl⟩ := List.mem_map.1 he
        exact Bool.eq_false_iff.2 fun c => lookR_none h r hr (sameD_iff.1 c)
  | some r =>
    obtain ⟨hr, rfl⟩ := lookR_some h
    have hm : r.e ∈ rs.map (·.e) := List.mem_map.2 ⟨r, hr, rfl⟩
    have hlt : findE (rs.map (·.e)) r.e.dot < (rs.map (·.e)).length := List.findIdx_lt_length_of_exists ⟨r.e, hm, sameD_iff.2 rfl⟩
    rw [List.getElem?_eq_getElem hlt]
    have h1 : sameD ((rs.map (fun x : EvR => x.e))[findE (rs.map (fun x : EvR => x.e)) r.e.dot]'hlt).dot r.e.dot = true := List.findIdx_getElem (w := hlt)
    exact congrArg Option.some (one_dot hs (List.getElem_mem hlt) hm (sameD_iff.1 h1))
theorem KeptD.forget {D : DataW Value} {rs : List EvR} (h : KeptD D rs) (hT : Go.Maps.Tidy D) (hs : SortedE (rs.map (·.e))) {i : Nat} {r : EvR} (hi : rs[i]? = some r) (hx : FitD r.e.dot) : KeptD (D.del (keyD r.e.dot)) (rs.eraseIdx i) := by
  have hr : r ∈ rs := List.mem_of_getElem? hi
  have h0 := h.at_ _ hx
  rw [lookR_mem hs hr] at h0
  have hd0 := sortedD_nodup (sortedE_dots hs)
  rw [List.map_map] at hd0
  have hlt := (List.getElem?_eq_some_iff.1 hi).1
  refine ⟨?_, fun d hd => ?_⟩
  · have h1 := Go.Maps.size_del (k := keyD r.e.dot) hT
    have h2 := h0.has
    rw [h2, h.size] at h1
    rw [List.length_eraseIdx, if_pos hlt]
    simp at h1
    omega
  · by_cases e : d = r.e.dot
    · subst e
      have e1 : lookR (rs.eraseIdx i) r.e.dot = none := by
        cases h1 : lookR (rs.eraseIdx i) r.e.dot with
        | none => rfl
        | some q =>
          obtain ⟨h3, h4⟩ := lookR_some h1
          obtain ⟨j, hj1, hj2, rfl⟩ := List.mem_eraseIdx_iff_getElem.1 h3
          exfalso
          have e2 : (rs.map ((fun x : EventN => x.dot) ∘ fun x : EvR => x.e))[j]'(by simpa using hj1) = (rs.map ((fun x : EventN => x.dot) ∘ fun x : EvR => x.e))[i]'(by simpa using hlt) := by
            have e3 := (List.getElem?_eq_some_iff.1 hi).2
            simp only [List.getElem_map, Function.comp_apply, e3]
            exact h4
          exact hj2 ((List.getElem_inj hd0).1 e2)
      rw [e1]
      exact HeldAt.gone
    · have e1 : lookR (rs.eraseIdx i) d = lookR rs d := by
        unfold lookR
        have h3 : ∀ (l : List EvR) (i : Nat), l[i]? = some r → (l.eraseIdx i).find? (fun r => sameD r.e.dot d) = l.find? fun r => sameD r.e.dot d := by
          intro l
          induction l with
          | nil => intro i h; cases h
          | cons a t ih =>
            intro i h
            cases i with
            | zero =>
              cases h
              rw [List.eraseIdx_zero, List.tail_cons, List.find?_cons, Bool.eq_false_iff.2 fun c => e (sameD_iff.1 c).symm]
            | succ i =>
              rw [List.getElem?_cons_succ] at h
              rw [List.eraseIdx_cons_succ, List.find?_cons, List.find?_cons, ih i h]
        exact h3 rs i hi
      rw [e1]
      exact (h.at_ d hd).but (fun c => e (keyD_inj hd hx c))
theorem KeptD.bare {D : DataW Value} {rs : List EvR} (h : KeptD D rs) (hT : Go.Maps.Tidy D) (hs : SortedE (rs.map (·.e))) {i : Nat} {r q : EvR} (hi : rs[i]? = some r) (hx : FitD r.e.dot) (hq : q.e.dot = r.e.dot) : KeptD (D.put (keyD r.e.dot) (.held (.agg (encE q).toArray))) (rs.set i q) := by
  have hr : r ∈ rs := List.mem_of_getElem? hi
  have h0 := h.at_ _ hx
  rw [lookR_mem hs hr] at h0
  have hlk : ∀ d, lookR (rs.set i q) d = if sameD d r.e.dot = true then some q else lookR rs d := by
    intro d
    have hd0 := sortedD_nodup (sortedE_dots hs)
    rw [List.map_map] at hd0
    unfold lookR
    clear hs h h0 hr
    induction rs generalizing i with
    | nil => cases hi
    | cons a t ih =>
      rw [List.map_cons, List.nodup_cons] at hd0
      cases i with
      | zero =>
        cases hi
        rw [List.set_cons_zero, List.find?_cons, List.find?_cons, hq]
        by_cases e : d = r.e.dot
        · rw [if_pos (sameD_iff.2 e), sameD_iff.2 e.symm]
        · rw [if_neg (fun c => e (sameD_iff.1 c)), Bool.eq_false_iff.2 fun c => e (sameD_iff.1 c).symm]
      | succ i =>
        rw [List.getElem?_cons_succ] at hi
        rw [List.set_cons_succ, List.find?_cons, List.find?_cons, ih hi hd0.2]
        cases hc : sameD a.e.dot d with
        | false => rfl
        | true =>
          have hne : ¬ sameD d r.e.dot = true := fun c => hd0.1 (List.mem_map.2 ⟨r, List.mem_of_getElem? hi, ((sameD_iff.1 hc).trans (sameD_iff.1 c)).symm⟩)
          exact (if_neg hne).symm
  refine ⟨?_, fun d hd => ?_⟩
  · have h2 := h0.has
    rw [Go.Maps.size_put hT, h2, if_pos (by simp), h.size, List.length_set]
  · rw [hlk]
    by_cases e : d = r.e.dot
    · subst e
      rw [if_pos (sameD_iff.2 rfl)]
      exact HeldAt.put hT.isMap (keyedDot.key (key_dot hd)) _
    · rw [if_neg (fun c => e (sameD_iff.1 c))]
      exact (h.at_ d hd).other (fun c => e (keyD_inj hd hx c)) _
end Go.Proofs.YtaodjnkjjmhecaaGreatDoor
namespace Go.Proofs.YtaodjnkjjmhecaaGreatDoor
set_option linter.unusedVariables false
def stepM (m : MapN) (s : StepR) : MapN :=
  if s.kind = 1 then (applyM m s.r.e).1 else if s.kind = 2 then (forgetM m s.r.e.dot).1 else if s.kind = 3 then (bareM m s.r.e.dot).1 else if s.kind = 4 then (clearM m s.r.e.dot).1 else m
def stepsM (m : MapN) (l : List StepR) : MapN := l.foldl stepM m
theorem steps_snoc {P : List StepR} {k : Nat} {s : StepR} (m : MapN) (h : P[k]? = some s) : stepsM m (P.take (k + 1)) = stepM (stepsM m (P.take k)) s := by
  have hk := (List.getElem?_eq_some_iff.1 h).1
  have e := (List.getElem?_eq_some_iff.1 h).2
  rw [List.take_succ_eq_append_getElem hk, e]
  unfold stepsM
  rw [List.foldl_append]
  rfl
theorem forget_in {m : MapN} (d : DotN) : (∀ e ∈ (forgetM m d).1.kept, e ∈ m.kept) ∧ (forgetM m d).1.ctx = m.ctx ∧ (forgetM m d).1.dead = m.dead := by
  unfold forgetM
  split
  · exact ⟨fun _ h => h, rfl, rfl⟩
  · split
    · exact ⟨fun _ h => h, rfl, rfl⟩
    · exact ⟨fun e he => (List.eraseIdx_sublist m.kept (findE m.kept d)).subset he, rfl, rfl⟩
theorem bare_in {m : MapN} (d : DotN) : (∀ e ∈ (bareM m d).1.kept, e ∈ m.kept ∨ ∃ x ∈ m.kept, e = { x with over := [] }) ∧ (bareM m d).1.ctx = m.ctx ∧ (bareM m d).1.dead = m.dead := by
  unfold bareM
  split
  · exact ⟨fun _ h => .inl h, rfl, rfl⟩
  · rename_i x hx
    split
    · refine ⟨fun e he => ?_, rfl, rfl⟩
      rcases List.mem_or_eq_of_mem_set he with he | rfl
      · exact .inl he
      · exact .inr ⟨x, List.mem_of_getElem? hx, rfl⟩
    · exact ⟨fun _ h => .inl h, rfl, rfl⟩
theorem clear_in {m : MapN} (d : DotN) : (clearM m d).1.kept = m.kept ∧ (clearM m d).1.ctx = m.ctx ∧ (clearM m d).1.dead.length ≤ m.dead.length := by
  unfold clearM
  split
  · exact ⟨rfl, rfl, List.length_filter_le _ _⟩
  · exact ⟨rfl, rfl, Nat.le_refl _⟩
theorem light_bare {e : EventN} (h : lightE e = true) : lightE { e with over := [] } = true := by
  unfold lightE at *
  simp only [Bool.and_eq_true, decide_eq_true_eq] at *
  exact ⟨Nat.zero_le _, h.2⟩
theorem GoodM.step {m : MapN} {k : Nat} (h : GoodM m k) (s : StepR) (hk : k < 2048) (hl : lightE s.r.e = true) : GoodM (stepM m s) (k + 1) := by
  unfold stepM
  split
  · exact h.apply _ hk hl
  split
  · obtain ⟨h1, h2, h3⟩ := forget_in (m := m) s.r.e.dot
    obtain ⟨h4, h5⟩ := forget_oks s.r.e.dot h.oks
    exact (show GoodM _ k from ⟨h4, by rw [h2]; exact h.ctx, Nat.le_trans h5 h.kept, by rw [h3]; exact h.dead, fun e he => h.light e (h1 e he)⟩).more (Nat.le_succ _)
  split
  · obtain ⟨h1, h2, h3⟩ := bare_in (m := m) s.r.e.dot
    obtain ⟨h4, h5⟩ := bare_oks s.r.e.dot h.oks
    exact (show GoodM _ k from ⟨h4, by rw [h2]; exact h.ctx, Nat.le_trans h5 h.kept, by rw [h3]; exact h.dead, fun e he => (h1 e he).elim (h.light e) (fun ⟨x, hx, hex⟩ => by rw [hex]; exact light_bare (h.light x hx))⟩).more (Nat.le_succ _)
  split
  · obtain ⟨h1, h2, h3⟩ := clear_in (m := m) s.r.e.dot
    obtain ⟨h4, h5⟩ := clear_oks s.r.e.dot h.oks
    exact (show GoodM _ k from ⟨h4, by rw [h2]; exact h.ctx, Nat.le_trans h5 h.kept, Nat.le_trans h3 h.dead, fun e he => h.light e (by rw [h1] at he; exact he)⟩).more (Nat.le_succ _)
  · exact h.more (Nat.le_succ _)
theorem GoodM.steps (l : List StepR) : ∀ (m : MapN) (k : Nat), GoodM m k → k + l.length ≤ 2048 → (∀ s ∈ l, lightE s.r.e = true) → GoodM (stepsM m l) (k + l.length) := by
  induction l with
  | nil => exact fun m k h _ _ => h
  | cons s t ih =>
    intro m k h hk hl
    rw [List.length_cons] at hk ⊢
    have h1 := ih (stepM m s) (k + 1) (h.step s (by omega) (hl s (List.mem_cons_self ..))) (by omega) (fun x hx => hl x (List.mem_cons_of_mem _ hx))
    rw [show k + (t.length + 1) = k + 1 + t.length by omega]
    exact h1
theorem GoodM.load {m : MapN} {k : Nat} (h : GoodM m k) (hk : k ≤ 600) : loadM m = 0 := by
  have h1 := h.ctx; have h2 := h.kept; have h3 := h.dead
  exact load_zero h.oks (by omega) (by omega) (by omega)
end Go.Proofs.YtaodjnkjjmhecaaGreatDoor
namespace Go.Proofs.YtaodjnkjjmhecaaGreatDoor
open Go.RowKit
set_option linter.unusedVariables false
theorem Real.not_obj {w : World} {p : Nat} {B : Slots} {rs : List EvR} {m : MapN} (h : Real w p B rs m) (i : Slot) : B i ≠ some p := fun e => (h.blk i p e).not_obj h.obj rfl
end Go.Proofs.YtaodjnkjjmhecaaGreatDoor
namespace Go.Proofs.YtaodjnkjjmhecaaGreatDoor
open Go.RowKit Go.Shelf Go.WideMaps
set_option linter.unusedVariables false
attribute [local go_sem] Oper.semAt_some
set_option maxRecDepth 100000 in
set_option maxHeartbeats 2000000 in
theorem sliceEachD0 (m Bs : Nat) (a : Option Addr) (n c : Nat) (L : List DotN) (w : World) (hm : 1 ≤ m) (hc : w.cell? ⟨Bs, 0, none⟩ = some (.slice a n c)) (hL : RowOf encD 3 w a n c L) :
    EachOf Fence.wide m Tryz.prog 141 #[.pointer (some ⟨Bs, 0, none⟩)] (fun x : { r : DotN // r ∈ L } => #[.agg (encD x.1).toArray]) (fun k => k = Bs ∨ (At a k ∧ 0 < n)) (fun xs => ∃ k, xs.map (·.1) = L.take k) (fun xs => xs.map (·.1) = L) w := by
  intro l J W hW hJ hY h0
  have hc' := (hW.cell (p := ⟨Bs, 0, none⟩) (cell_lt hc)).trans hc
  have hL' := hL.below hW
  have hlq := hL.leq
  have hcm := hL.capm
  have hcl := hL.cle
  unfold maxLen at hcm
  clear hc hL
  refine callsIn_of_wp Tryz.func141 rfl trivial ?_ rfl
  simp only [Tryz.ntmps141, List.size_toArray, List.length_cons, List.length_nil, Nat.reduceAdd, Nat.reduceSub, Array.replicate_succ, Array.replicate_zero, List.push_toArray, List.append_toArray, List.nil_append, List.cons_append]
  gi_wp2
  gi_loopw [4, 7] (fun _ i wr => ∃ (k : Nat) (xs : List { r : DotN // r ∈ L }), k ≤ n ∧ i = .int .i64 (k : Int) ∧ Hid (xs.map (·.1) = L.take k) ∧ J xs wr ∧ RowOf encD 3 wr a n c L ∧ wr.cell? ⟨Bs, 0, none⟩ = some (.slice a n c)) (fun _ i _ => n - (intOf i).toNat)
  case atStart => exact ⟨0, [], Nat.zero_le _, rfl, rfl, h0, hL', hc'⟩
  case round =>
    obtain ⟨k, xs, hk, rfl, hxs, hJs, hr, hcr⟩ := hrel
    by_cases hlt : k < n
    · have hlt' : (k : Int) < (n : Int) := by omega
      obtain ⟨x, g, off, hx, rfl, u0, u1, u2⟩ := dot_at hr k hlt
      have hmem := List.mem_of_getElem? hx
      have hst : Hid ((xs ++ [(⟨x, hmem⟩ : { r : DotN // r ∈ L })]).map (·.1) = L.take (k + 1)) := by
        unfold Hid
        rw [List.map_append, hxs.out, take_snocI hx]
        rfl
      have hJ3 := hJ xs wr _ (SysStep.alloc W.heap.size wr (.cells #[.int .i64 x.dev, .int .i64 x.inc, .int .i64 x.seq] 35)) hJs
      have hr3 := hr.below (below_alloc wr (.cells #[.int .i64 x.dev, .int .i64 x.inc, .int .i64 x.seq] 35))
      have hc3 := (below_alloc wr (.cells #[.int .i64 x.dev, .int .i64 x.inc, .int .i64 x.seq] 35)).cell (p := ⟨Bs, 0, none⟩) (cell_lt hcr) |>.trans hcr
      have oA := ObjAt.new wr #[.int .i64 x.dev, .int .i64 x.inc, .int .i64 x.seq] 35
      obtain ⟨w3, hw3⟩ : ∃ w3, wr.alloc (.cells #[.int .i64 x.dev, .int .i64 x.inc, .int .i64 x.seq] 35) = w3 := ⟨_, rfl⟩
      rw [hw3] at hJ3 hr3 hc3 oA
      have y0 := oA.cell 0 rfl; have y1 := oA.cell 1 rfl; have y2 := oA.cell 2 rfl
      obtain ⟨fn, tmps, assign, body, hy, hR⟩ := hY xs ⟨x, hmem⟩ w3 hJ3 ⟨_, hst.out⟩
      dsimp only [encD] at hy
      clear hY hJ hL' hc' hW
      gi_wp2
      refine hR.mono ?_
      rintro e W3 ⟨rfl, hJ4, hk4⟩
      gi_wp2
      go_roundw
      case rel => exact ⟨k + 1, _, by omega, by go_num, hst, hJ4, hr3.stays hk4 (fun j h => .inr ⟨h, by omega⟩), stays_cell hk4 (.inl rfl) hc3⟩
      case measure => simp [intOf]; omega
    · obtain rfl : n = k := by omega
      gi_wp2
      go_end0
      exact ⟨⟨_, rfl⟩, xs, by rw [hxs.out, List.take_of_length_le (Nat.le_of_eq hlq)], hJs⟩
set_option maxRecDepth 100000 in
set_option maxHeartbeats 2000000 in
theorem sliceEachE0 (m Bs : Nat) (a : Option Addr) (n c : Nat) (L : List EvR) (w : World) (hm : 1 ≤ m) (hc : w.cell? ⟨Bs, 0, none⟩ = some (.slice a n c)) (hL : RowOf encE 19 w a n c L) :
    EachOf Fence.wide m Tryz.prog 140 #[.pointer (some ⟨Bs, 0, none⟩)] (fun x : { r : EvR // r ∈ L } => #[.agg (encE x.1).toArray]) (fun k => k = Bs ∨ (At a k ∧ 0 < n)) (fun xs => ∃ k, xs.map (·.1) = L.take k) (fun xs => xs.map (·.1) = L) w := by
  intro l J W hW hJ hY h0
  have hc' := (hW.cell (p := ⟨Bs, 0, none⟩) (cell_lt hc)).trans hc
  have hL' := hL.below hW
  have hlq := hL.leq
  have hcm := hL.capm
  have hcl := hL.cle
  unfold maxLen at hcm
  clear hc hL
  obtain ⟨Z, hZ⟩ : ∃ Z, (#[.int .i64 0, .int .i64 0, .int .i64 0, .int .i64 0, .int .i64 0, .int .i64 0, .int .i64 0, .string ⟨#[]⟩, .string ⟨#[]⟩, .string ⟨#[]⟩, .string ⟨#[]⟩, .bool false, .bool false, .bool false, .bool false, .int .i64 0, .int .i64 0, .int .i64 0, .slice none 0 0] : Array Value) = Z := ⟨_, rfl⟩
  have zZ : Z.size = 19 := by rw [← hZ]; rfl
  refine callsIn_of_wp Tryz.func140 rfl trivial ?_ rfl
  simp only [Tryz.ntmps140, List.size_toArray, List.length_cons, List.length_nil, Nat.reduceAdd, Nat.reduceSub, Array.replicate_succ, Array.replicate_zero, List.push_toArray, List.append_toArray, List.nil_append, List.cons_append]
  gi_wp2
  gi_loopw [4, 7] (fun _ i wr => ∃ (k : Nat) (xs : List { r : EvR // r ∈ L }), k ≤ n ∧ i = .int .i64 (k : Int) ∧ Hid (xs.map (·.1) = L.take k) ∧ J xs wr ∧ RowOf encE 19 wr a n c L ∧ wr.cell? ⟨Bs, 0, none⟩ = some (.slice a n c)) (fun _ i _ => n - (intOf i).toNat)
  case atStart => exact ⟨0, [], Nat.zero_le _, rfl, rfl, h0, hL', hc'⟩
  case round =>
    obtain ⟨k, xs, hk, rfl, hxs, hJs, hr, hcr⟩ := hrel
    by_cases hlt : k < n
    · have hlt' : (k : Int) < (n : Int) := by omega
      obtain ⟨x, g, off, A, hx, rfl, hA, zA, lA, cA, -⟩ := evr_at hr k hlt
      have hone : A.all (·.oneCell') = true := by rw [← hA]; exact encE_all _
      have hmem := List.mem_of_getElem? hx
      have hst : Hid ((xs ++ [(⟨x, hmem⟩ : { r : EvR // r ∈ L })]).map (·.1) = L.take (k + 1)) := by
        unfold Hid
        rw [List.map_append, hxs.out, take_snocI hx]
        rfl
      have hJ3 := hJ xs wr _ (SysStep.alloc W.heap.size wr (.cells A 43)) hJs
      have hr3 := hr.below (below_alloc wr (.cells A 43))
      have hc3 := (below_alloc wr (.cells A 43)).cell (p := ⟨Bs, 0, none⟩) (cell_lt hcr) |>.trans hcr
      have oA := ObjAt.new wr A 43
      have HY := fun ww => hY xs ⟨x, hmem⟩ ww
      dsimp only at HY
      rw [hA] at HY
      obtain ⟨fn, tmps, assign, body, hy, hR⟩ := HY _ hJ3 ⟨_, hst.out⟩
      clear hY hJ hL' hc' hW hA lA HY
      gi_wp2_with (first
        | (refine wpListIn_loadRow letsAll_wide rfl 43 _ rfl g (off + k * 19) 19 A rfl cA Tryz.isAgg43 Tryz.sizeOf43 zA ?_)
        | (refine wpListIn_storeAll letsAll_wide rfl 43 _ _ rfl Z A 19 rfl rfl (by kernel_rfl) zZ zA hone ?_)
        | (refine wpListIn_loadAll letsAll_wide rfl 43 _ rfl wr.heap.size 19 A rfl oA Tryz.isAgg43 Tryz.sizeOf43 zA ?_))
      refine hR.mono ?_
      rintro e W3 ⟨rfl, hJ4, hk4⟩
      gi_wp2
      go_roundw
      case rel => exact ⟨k + 1, _, by omega, by go_num, hst, hJ4, hr3.stays hk4 (fun j h => .inr ⟨h, by omega⟩), stays_cell hk4 (.inl rfl) hc3⟩
      case measure => simp [intOf]; omega
    · obtain rfl : n = k := by omega
      gi_wp2
      go_end0
      exact ⟨⟨_, rfl⟩, xs, by rw [hxs.out, List.take_of_length_le (Nat.le_of_eq hlq)], hJs⟩
end Go.Proofs.YtaodjnkjjmhecaaGreatDoor
namespace Go.Proofs.YtaodjnkjjmhecaaGreatDoor
open Go.RowKit
set_option linter.unusedVariables false
set_option linter.unusedSimpArgs false
theorem map_erase {α β : Type} (f : α → β) : ∀ (l : List α) (i : Nat), (l.eraseIdx i).map f = (l.map f).eraseIdx i
  | [], i => by simp
  | a :: t, 0 => by simp
  | a :: t, i + 1 => by simp [map_erase f t i]
def kindO (o : Option EvR) : Int := match o with
  | none => 0
  | some r => r.e.kind
theorem look_at {rs : List EvR} (hs : SortedE (rs.map (·.e))) {d : DotN} {r : EvR} (h : lookR rs d = some r) : rs[findE (rs.map (·.e)) d]? = some r := by
  have h1 := find_look hs d
  rw [h, List.getElem?_map] at h1
  cases h2 : rs[findE (rs.map (·.e)) d]? with
  | none => rw [h2] at h1; cases h1
  | some q =>
    rw [h2] at h1
    have h3 : q.e = r.e := Option.some.inj h1
    have h4 := lookR_mem hs (List.mem_of_getElem? h2)
    obtain ⟨h5, h6⟩ := lookR_some h
    rw [h3, h6, h] at h4
    rw [Option.some.inj h4]
theorem forget_none {m : MapN} {rs : List EvR} (hrs : rs.map (·.e) = m.kept) (hs : SortedE (rs.map (·.e))) {d : DotN} (h : lookR rs d = none) : forgetM m d = (m, false) := by
  have h1 := find_look hs d
  rw [h, hrs] at h1
  unfold forgetM
  rw [h1]
  rfl
theorem forget_stays {m : MapN} {rs : List EvR} (hrs : rs.map (·.e) = m.kept) (hs : SortedE (rs.map (·.e))) {d : DotN} {r : EvR} (h : lookR rs d = some r) (hk : (r.e.kind == 1 && !hasD m.dead d) = true) : forgetM m d = (m, false) := by
  have h1 := find_look hs d
  rw [h, hrs] at h1
  unfold forgetM
  rw [h1]
  simp only [Option.map_some]
  rw [if_pos hk]
theorem forget_goes {m : MapN} {rs : List EvR} (hrs : rs.map (·.e) = m.kept) (hs : SortedE (rs.map (·.e))) {d : DotN} {r : EvR} (h : lookR rs d = some r) (hk : (r.e.kind == 1 && !hasD m.dead d) = false) : forgetM m d = (⟨m.ctx, m.kept.eraseIdx (findE m.kept d), m.dead⟩, true) := by
  have h1 := find_look hs d
  rw [h, hrs] at h1
  unfold forgetM
  rw [h1]
  simp only [Option.map_some]
  rw [if_neg (by rw [hk]; decide)]
theorem Real.forget {w w' : World} {p : Nat} {B : Slots} {rs : List EvR} {m : MapN} (h : Real w p B rs m) {d : DotN} {r : EvR} (hl : lookR rs d = some r) (hk : (r.e.kind == 1 && !hasD m.dead d) = false) {b n : Nat} {D : DataW Value} (hb : B .kept = some b) (hD : KeptD D rs) (hT : Go.Maps.Tidy D) (hm : w'.ownsMap Tryz.prog 35 heldElem b n (D.del (keyD d))) (hkp : Keeps (fun k => k = b) w w') : Step w w' p B rs B (rs.eraseIdx (findE m.kept d)) (forgetM m d).1 := by
  obtain ⟨hr1, hrd⟩ := lookR_some hl
  have hi := look_at h.sorted hl
  rw [h.rs] at hi
  have hx : FitD r.e.dot := h.fit (h.rs ▸ List.mem_map.2 ⟨r, hr1, rfl⟩)
  have hkd := hD.forget hT h.sorted hi hx
  rw [hrd] at hkd
  have hfo := forget_oks d h.ok
  rw [forget_goes h.rs h.sorted hl hk] at hfo ⊢
  have hP := h.parts
  have hnp : p ≠ b := fun e => h.not_obj .kept (e ▸ hb)
  have hP2 : Parts w' p B (rs.eraseIdx (findE m.kept d)) m.ctx m.dead (dotsK m.kept m.dead) := by
    refine hP.set .kept (fun k q => by cases q) (fun _ _ => rfl) (hkp.mono fun k _ e => .inr (e ▸ hb)) (hP.obj.keeps hkp hnp) (fun b e => .inl e) (fun c => absurd rfl c) (fun _ => rfl) (fun _ => rfl) ?_ (fun y hy => ?_)
    · show KeptIs w' (B .kept) _
      rw [hb]
      exact .inr ⟨b, n, _, rfl, hm, hkd⟩
    · have hy2 : y ∈ rs := (List.eraseIdx_sublist rs _).subset hy
      exact over_keeps (hP.over y hy2) hkp fun k hk1 hc => hP.over_apart y hy2 k hk1 (.inr ⟨.kept, hc ▸ hb⟩)
  have hki : m.kept[findE m.kept d]? = some r.e := by
    have := find_look h.sorted d
    rw [hl, h.rs] at this
    exact this
  have hal : aliveB m.dead r.e = false := by unfold aliveB; rw [hrd]; exact hk
  have hdk : ∀ k, dotsK m.kept m.dead k = dotsK (m.kept.eraseIdx (findE m.kept d)) m.dead k := fun k => (dotsK_forget hki hal k).symm
  refine ⟨Parts.real (m := ⟨m.ctx, m.kept.eraseIdx (findE m.kept d), m.dead⟩) hP2 hdk (fun k e => h.nothing k ((hdk k).trans e)) ?_ hfo.1 (Nat.le_trans hfo.2 h.few) (fun e he => h.light e ((List.eraseIdx_sublist _ _).subset he)), hkp.mono fun k _ e => .inr ⟨.kept, e ▸ hb⟩, fun i b e => .inl ⟨i, e⟩, fun k hk2 => ?_⟩
  · rw [← h.rs, map_erase]
  · obtain ⟨y, hy, hk3⟩ := hk2
    exact .inl ⟨y, (List.eraseIdx_sublist _ _).subset hy, hk3⟩
set_option maxRecDepth 100000 in
set_option maxHeartbeats 4000000 in
theorem mForgetI {w : World} {p : Nat} {B : Slots} {rs : List EvR} {m : MapN} (h : Real w p B rs m) (d : DotN) (hx : FitD d) : Calls Tryz.prog 21 #[.pointer (some ⟨p, 0, none⟩), .agg #[.int .i64 d.dev, .int .i64 d.inc, .int .i64 d.seq]] w fun e w' => e = .returned (.bool (forgetM m d).2) ∧ ∃ rs', Step w w' p B rs B rs' (forgetM m d).1 := by
  have HO := fun v => mOrNewS p v
  obtain ⟨o, ho⟩ : ∃ o, lookR rs d = o := ⟨_, rfl⟩
  obtain ⟨A, hA⟩ : ∃ A, (encO o).toArray = A := ⟨_, rfl⟩
  obtain ⟨is, his⟩ : ∃ is, o.isSome = is := ⟨_, rfl⟩
  have hLK : ∀ w', KeptIs w' (B .kept) rs → (Instr.lookup 102 (.map (B .kept)) (.agg #[.int .i64 d.dev, .int .i64 d.inc, .int .i64 d.seq]) true).run Tryz.prog w' = .ok (.tuple #[.agg A, .bool is]) w' := fun w' hk' => by
    have := (kept_look hk' hx).2
    rw [ho, hA, his] at this
    exact this
  have zA : A.size = 19 := by rw [← hA]; exact encO_size o
  have honeA : A.all (·.oneCell') = true := by rw [← hA]; exact encO_one o
  have hi6 : A.toList[6]? = some (.int .i64 (kindO o)) := by rw [← hA]; cases o <;> rfl
  have hdk := key_dot hx
  have HD := fun v (hv : Real v p B rs m) => mDeadP hv.parts d hx
  have hnone := fun (e : o = none) => forget_none h.rs h.sorted (ho.trans e)
  have hstay := fun r (e : o = some r) hk => forget_stays h.rs h.sorted (ho.trans e) hk
  have hgo := fun r (e : o = some r) hk => forget_goes h.rs h.sorted (ho.trans e) hk
  have hforg := fun (v v' : World) (hv : Real v p B rs m) r (e : o = some r) hk b n D hb hD hT hm hkp => Real.forget (w' := v') hv (ho.trans e) hk (b := b) (n := n) (D := D) hb hD hT hm hkp
  obtain ⟨dev, inc, seq⟩ := d
  dsimp only at *
  obtain ⟨bd, hbd⟩ : ∃ bd, w.heap.size = bd := ⟨_, rfl⟩
  have o1 := ObjAt.new w #[.int .i64 dev, .int .i64 inc, .int .i64 seq] 35
  have b1 := below_alloc w (.cells #[.int .i64 dev, .int .i64 inc, .int .i64 seq] 35)
  have h1 := h.below b1
  have hlp := h.obj.lt
  rw [hbd] at o1
  generalize hw1 : w.alloc (.cells #[.int .i64 dev, .int .i64 inc, .int .i64 seq] 35) = w1 at *
  have l1 := o1.lt
  have hS1 : ∀ v, Below w1.heap.size w1 v → v.cell? ⟨p, 1, none⟩ = some (.map (B .kept)) ∧ v.cell? ⟨bd, 0, none⟩ = some (.int .i64 dev) ∧ v.cell? ⟨bd, 1, none⟩ = some (.int .i64 inc) ∧ v.cell? ⟨bd, 2, none⟩ = some (.int .i64 seq) ∧ KeptIs v (B .kept) rs := fun v hv => ⟨(h1.below hv).obj.cell 1 rfl, (o1.below hv l1).cell 0 rfl, (o1.below hv l1).cell 1 rfl, (o1.below hv l1).cell 2 rfl, (h1.below hv).kept⟩
  have hb1 : Below w1.heap.size w1 w1.drew := (Below.refl _ _).drew
  obtain ⟨Z, hZ⟩ : ∃ Z, (#[.int .i64 0, .int .i64 0, .int .i64 0, .int .i64 0, .int .i64 0, .int .i64 0, .int .i64 0, .string ⟨#[]⟩, .string ⟨#[]⟩, .string ⟨#[]⟩, .string ⟨#[]⟩, .bool false, .bool false, .bool false, .bool false, .int .i64 0, .int .i64 0, .int .i64 0, .slice none 0 0] : Array Value) = Z := ⟨_, rfl⟩
  have zZ : Z.size = 19 := by rw [← hZ]; rfl
  have zZl : Z.toList.length = 19 := by rw [Array.length_toList]; exact zZ
  obtain ⟨bk, hbk⟩ : ∃ bk, w1.heap.size = bk := ⟨_, rfl⟩
  have o7 : ObjAt (w1.drew.alloc (.cells Z 43)) bk Z.toList := hbk ▸ ObjAt.new w1.drew Z 43
  have c7 : Below w1.heap.size w1 (w1.drew.alloc (.cells Z 43)) := hb1.trans ((below_alloc w1.drew (.cells Z 43)).mono (Nat.le_refl _))
  have c8 := below_rowSet c7 (g := bk) (Nat.le_of_eq hbk) A
  go_enter Tryz.func21, Tryz.ntmps21
  go_wp2_with (go_at_call 73; (with_reducible refine (HO _).mono ?_); rintro e w2 ⟨rfl, rfl⟩)
  go_wp2_with fail
  refine wp_region_held_drew (S := fun w' => w'.cell? ⟨p, 1, none⟩ = some (.map (B .kept)) ∧ w'.cell? ⟨bd, 0, none⟩ = some (.int .i64 dev) ∧ w'.cell? ⟨bd, 1, none⟩ = some (.int .i64 inc) ∧ w'.cell? ⟨bd, 2, none⟩ = some (.int .i64 seq) ∧ KeptIs w' (B .kept) rs) (by kernel_rfl) (hS1 _ hb1) (fun hHeld => ?_)
  first | (refine tR (i := 0) rfl rfl ?_) | (refine tL (i := 0) (v := ?vb1) rfl ?hyb1 ?rb1; case hyb1 => (rintro w' hS; obtain ⟨hs0, hs1, hs2, hs3, hs4⟩ := hS; go_simp; try with_reducible rfl))
  try simp only [gA, gB, Act.put, gD, gE, gF]
  first | (refine tR (i := 1) rfl rfl ?_) | (refine tL (i := 1) (v := ?vb2) rfl ?hyb2 ?rb2; case hyb2 => (rintro w' hS; obtain ⟨hs0, hs1, hs2, hs3, hs4⟩ := hS; go_simp; try with_reducible rfl))
  try simp only [gA, gB, gC, Act.put, gD, gE, gF]
  first | (refine tR (i := 2) rfl rfl ?_) | (refine tL (i := 2) (v := ?vb3) rfl ?hyb3 ?rb3; case hyb3 => (rintro w' hS; obtain ⟨hs0, hs1, hs2, hs3, hs4⟩ := hS; go_simp; try with_reducible rfl))
  try simp only [gA, gB, gC, Act.put, gD, gE, gF]
  first | (refine tR (i := 3) rfl rfl ?_) | (refine tL (i := 3) (v := ?vb4) rfl ?hyb4 ?rb4; case hyb4 => (rintro w' hS; obtain ⟨hs0, hs1, hs2, hs3, hs4⟩ := hS; go_simp; try with_reducible rfl))
  try simp only [gA, gB, gC, Act.put, gD, gE, gF]
  first | (refine tR (i := 4) rfl rfl ?_) | (refine tL (i := 4) (v := ?vb5) rfl ?hyb5 ?rb5; case hyb5 => (rintro w' hS; obtain ⟨hs0, hs1, hs2, hs3, hs4⟩ := hS; go_simp; try with_reducible rfl))
  try simp only [gA, gB, gC, Act.put, gD, gE, gF]
  refine wpAnyH_take (i := 5) (v := .tuple #[.agg A, .bool is]) rfl (by kernel_rfl) (by kernel_rfl) (by kernel_rfl) (fun _ _ _ h => h) (Or.inl ⟨by rfl, fun w' hS => by obtain ⟨hs0, hs1, hs2, hs3, hs4⟩ := hS; exact exec_look (.tmp 13) (.tmp 14) 102 true rfl _ rfl _ rfl (hLK w' hs4)⟩) (by assumption) ?_
  try simp only [gA, gB, gC, Act.put, gD, gE, gF]
  first | (refine tR (i := 6) rfl rfl ?_) | (refine tL (i := 6) (v := ?vb6) rfl ?hyb6 ?rb6; case hyb6 => (rintro w' hS; obtain ⟨hs0, hs1, hs2, hs3, hs4⟩ := hS; go_simp; try with_reducible rfl))
  try simp only [gA, gB, gC, Act.put, gD, gE, gF]
  first | (refine tR (i := 7) rfl rfl ?_) | (refine tL (i := 7) (v := ?vb7) rfl ?hyb7 ?rb7; case hyb7 => (rintro w' hS; obtain ⟨hs0, hs1, hs2, hs3, hs4⟩ := hS; go_simp; try with_reducible rfl))
  try simp only [gA, gB, gC, Act.put, gD, gE, gF]
  first | (refine tR (i := 8) rfl rfl ?_) | (refine tL (i := 8) (v := ?vb8) rfl ?hyb8 ?rb8; case hyb8 => (rintro w' hS; obtain ⟨hs0, hs1, hs2, hs3, hs4⟩ := hS; go_simp; try with_reducible rfl))
  try simp only [gA, gB, gC, Act.put, gD, gE, gF]
  refine wpAnyH_ready (rs := [9]) (by kernel_rfl) (by simp) ?_
  refine AllReadyH.cons (o := _) rfl (fun K hK => ?_) AllReadyH.nil
  go_simp
  skip
  try dsimp only
  refine hK.out _ _ (hS1 _ c7) (fun hHeld => ?_)
  clear hK K
  try simp only [gA, gB, gC, Act.put, gD, gE, gF]
  refine wpAnyH_ready (rs := [10]) (by kernel_rfl) (by simp) ?_
  refine AllReadyH.cons (o := _) rfl (fun K hK => ?_) AllReadyH.nil
  refine step_storeOver (by rfl) 43 (.tmp 5) (.tmp 16) (by rfl) bk Z.toList A 19 rfl rfl o7 (by kernel_rfl) zZl zA honeA ?_
  try dsimp only
  refine hK.out _ _ (hS1 _ c8) (fun hHeld => ?_)
  clear hK K
  try simp only [gA, gB, gC, Act.put, gD, gE, gF]
  first | (refine tR (i := 11) rfl rfl ?_) | (refine tL (i := 11) (v := ?vb9) rfl ?hyb9 ?rb9; case hyb9 => (rintro w' hS; obtain ⟨hs0, hs1, hs2, hs3, hs4⟩ := hS; go_simp; try with_reducible rfl))
  try simp only [gA, gB, gC, Act.put, gD, gE, gF]
  refine wpAnyH_done (by kernel_rfl) ?_ _
  have o9 : ObjAt ((w1.alloc (.cells Z 43)).drew.setRow bk A) bk A.toList := o7.setRow A
  have c9 : Below w1.heap.size w1 ((w1.alloc (.cells Z 43)).drew.setRow bk A) := c8
  clear c8
  have c8 := c9
  clear c9
  have R9 := h1.below c8
  have d9 := o1.below c8 l1
  have b9 := b1.trans (c8.mono b1.size)
  clear hS1 hb1 o7 c7 c8 h1 o1 hLK hHeld hZ
  generalize ((w1.alloc (.cells Z 43)).drew.setRow bk A) = w3 at *
  have y6 := o9.cell 6 hi6
  have z0 := d9.cell 0 rfl; have z1 := d9.cell 1 rfl; have z2 := d9.cell 2 rfl
  have ld9 := d9.lt
  have HD9 := HD _ R9
  clear HD
  cases o with
  | none =>
    obtain rfl : is = false := his.symm
    have hpl := Lib.hid (hnone rfl)
    clear hnone hstay hgo hforg
    go_wp2
    go_ret
    refine ⟨?_, rs, ?_⟩
    · first | (rw [hpl.out]; rfl) | (rw [hpl.out])
    · rw [hpl.out]
      exact Step.refl h b9
  | some r =>
    obtain rfl : is = true := his.symm
    have hst := hstay r rfl
    have hgs := hgo r rfl
    have hfr := fun (v v' : World) (hv : Real v p B rs m) hk b n D hb hD hT hm hkp => hforg v v' hv r rfl hk b n D hb hD hT hm hkp
    clear hnone hstay hgo hforg
    obtain ⟨kd, hkd⟩ : ∃ kd, r.e.kind = kd := ⟨_, rfl⟩
    rw [show kindO (some r) = r.e.kind from rfl, hkd] at y6
    rw [hkd] at hst hgs
    simp only [hkd] at hfr
    obtain ⟨bq, nq, Dq, e0, hmq0, hDq⟩ : ∃ bq nq Dq, B .kept = some bq ∧ w3.ownsMap Tryz.prog 35 heldElem bq nq Dq ∧ KeptD Dq rs := by
      rcases R9.kept with ⟨e, hn⟩ | ⟨b, n, D, e, hm, hD⟩
      · rw [hn] at ho
        cases ho
      · exact ⟨b, n, D, e, hm, hD⟩
    have nqp : bq ≠ p := fun c => R9.not_obj .kept (c ▸ e0)
    have nqd : bq ≠ bd := (ownsMap_blk hmq0).not_obj d9
    have hTq := hmq0.tidy keyedDot
    have hbf := R9.blk .kept bq e0
    by_cases hk1 : kd = 1
    · have t1 : (kd == 1) = true := by rw [hk1]; rfl
      rw [t1] at hst hgs
      simp only [t1] at hfr
      clear hk1
      cases hdd : hasD m.dead ⟨dev, inc, seq⟩ with
      | false =>
        rw [hdd] at HD9
        have hpl := Lib.hid (hst (by rw [hdd]; rfl))
        clear hst hgs hfr
        go_wp2_with (go_at_call 38; (with_reducible refine HD9.mono ?_); rintro e w4 ⟨rfl, hx4⟩)
        go_ret
        refine ⟨?_, rs, ?_⟩
        · first | (rw [hpl.out]; rfl) | (rw [hpl.out])
        · rw [hpl.out]
          exact Step.refl h (b9.trans (hx4.mono b9.size))
      | true =>
        rw [hdd] at HD9
        have hpl := Lib.hid (hgs (by rw [hdd]; rfl))
        have hfk := fun (v v' : World) (hv : Real v p B rs m) => hfr v v' hv (by rw [hdd]; rfl)
        clear hst hgs hfr
        go_wp2_with (go_at_call 38; (with_reducible refine HD9.mono ?_); rintro e w4 ⟨rfl, hx4⟩)
        have hR5 := R9.below hx4
        have od5 := d9.below hx4 ld9
        have p0 := hR5.obj.cell 1 rfl
        rw [e0] at p0
        have y0 := od5.cell 0 rfl; have y1 := od5.cell 1 rfl; have y2 := od5.cell 2 rfl
        have hmq := (Keeps.new (F := fun _ => False) hx4).grownBy (fun h => h) hmq0
        refine wp_region_held_drew (S := fun w' => w'.cell? ⟨p, 1, none⟩ = some (.map (some bq)) ∧ w'.cell? ⟨bd, 0, none⟩ = some (.int .i64 dev) ∧ w'.cell? ⟨bd, 1, none⟩ = some (.int .i64 inc) ∧ w'.cell? ⟨bd, 2, none⟩ = some (.int .i64 seq)) (by kernel_rfl) (⟨p0, y0, y1, y2⟩) (fun hHeld => ?_)
        first | (refine tR (i := 0) rfl rfl ?_) | (refine tL (i := 0) (v := ?vb10) rfl ?hyb10 ?rb10; case hyb10 => (rintro w' hS; obtain ⟨hs0, hs1, hs2, hs3⟩ := hS; go_simp; try with_reducible rfl))
        try simp only [gA, gB, Act.put, gD, gE, gF]
        first | (refine tR (i := 1) rfl rfl ?_) | (refine tL (i := 1) (v := ?vb11) rfl ?hyb11 ?rb11; case hyb11 => (rintro w' hS; obtain ⟨hs0, hs1, hs2, hs3⟩ := hS; go_simp; try with_reducible rfl))
        try simp only [gA, gB, gC, Act.put, gD, gE, gF]
        first | (refine tR (i := 2) rfl rfl ?_) | (refine tL (i := 2) (v := ?vb12) rfl ?hyb12 ?rb12; case hyb12 => (rintro w' hS; obtain ⟨hs0, hs1, hs2, hs3⟩ := hS; go_simp; try with_reducible rfl))
        try simp only [gA, gB, gC, Act.put, gD, gE, gF]
        first | (refine tR (i := 3) rfl rfl ?_) | (refine tL (i := 3) (v := ?vb13) rfl ?hyb13 ?rb13; case hyb13 => (rintro w' hS; obtain ⟨hs0, hs1, hs2, hs3⟩ := hS; go_simp; try with_reducible rfl))
        try simp only [gA, gB, gC, Act.put, gD, gE, gF]
        first | (refine tR (i := 4) rfl rfl ?_) | (refine tL (i := 4) (v := ?vb14) rfl ?hyb14 ?rb14; case hyb14 => (rintro w' hS; obtain ⟨hs0, hs1, hs2, hs3⟩ := hS; go_simp; try with_reducible rfl))
        try simp only [gA, gB, gC, Act.put, gD, gE, gF]
        refine wpAnyH_ready (rs := [5]) (by kernel_rfl) (by simp) ?_
        refine AllReadyH.cons (o := _) rfl (fun K hK => ?_) AllReadyH.nil
        refine step_delete (by rfl) (.tmp 34) (.tmp 35) 102 35 (by rfl) 43 keyedDot Tryz.underlying102 heldElem bq nq _ rfl hmq.drew _ _ rfl hdk ?_; intro w6 hm6 hk6; have ob6 := hR5.obj.drew.keeps hk6 (fun c => nqp c.symm); have od6 := od5.drew.keeps hk6 (fun c => nqd c.symm); have x0 := ob6.cell 1 rfl; rw [e0] at x0
        try dsimp only
        refine hK.out _ _ (⟨x0, od6.cell 0 rfl, od6.cell 1 rfl, od6.cell 2 rfl⟩) (fun hHeld => ?_)
        clear hK K
        try simp only [gA, gB, gC, Act.put, gD, gE, gF]
        refine wpAnyH_done (by kernel_rfl) ?_ _
        go_wp2
        go_ret
        have hb5 := (b9.trans (hx4.mono b9.size)).trans ((Below.refl w4.heap.size w4).drew.mono (b9.trans (hx4.mono b9.size)).size)
        refine ⟨?_, _, (Step.refl h hb5).trans (hfk _ w6 (h.below hb5) bq nq Dq e0 hDq hTq hm6 hk6)⟩
        first | (rw [hpl.out]; rfl) | (rw [hpl.out])
    · have t1 : (kd == 1) = false := by simpa using hk1
      rw [t1] at hst hgs
      simp only [t1] at hfr
      have hpl := Lib.hid (hgs rfl)
      have hfk := fun (v v' : World) (hv : Real v p B rs m) => hfr v v' hv rfl
      have hx4 : Below w3.heap.size w3 w3 := Below.refl _ _
      clear hst hgs hfr
      go_wp2_with fail
      have hR5 := R9.below hx4
      have od5 := d9.below hx4 ld9
      have p0 := hR5.obj.cell 1 rfl
      rw [e0] at p0
      have y0 := od5.cell 0 rfl; have y1 := od5.cell 1 rfl; have y2 := od5.cell 2 rfl
      have hmq := (Keeps.new (F := fun _ => False) hx4).grownBy (fun h => h) hmq0
      refine wp_region_held_drew (S := fun w' => w'.cell? ⟨p, 1, none⟩ = some (.map (some bq)) ∧ w'.cell? ⟨bd, 0, none⟩ = some (.int .i64 dev) ∧ w'.cell? ⟨bd, 1, none⟩ = some (.int .i64 inc) ∧ w'.cell? ⟨bd, 2, none⟩ = some (.int .i64 seq)) (by kernel_rfl) (⟨p0, y0, y1, y2⟩) (fun hHeld => ?_)
      first | (refine tR (i := 0) rfl rfl ?_) | (refine tL (i := 0) (v := ?vb15) rfl ?hyb15 ?rb15; case hyb15 => (rintro w' hS; obtain ⟨hs0, hs1, hs2, hs3⟩ := hS; go_simp; try with_reducible rfl))
      try simp only [gA, gB, Act.put, gD, gE, gF]
      first | (refine tR (i := 1) rfl rfl ?_) | (refine tL (i := 1) (v := ?vb16) rfl ?hyb16 ?rb16; case hyb16 => (rintro w' hS; obtain ⟨hs0, hs1, hs2, hs3⟩ := hS; go_simp; try with_reducible rfl))
      try simp only [gA, gB, gC, Act.put, gD, gE, gF]
      first | (refine tR (i := 2) rfl rfl ?_) | (refine tL (i := 2) (v := ?vb17) rfl ?hyb17 ?rb17; case hyb17 => (rintro w' hS; obtain ⟨hs0, hs1, hs2, hs3⟩ := hS; go_simp; try with_reducible rfl))
      try simp only [gA, gB, gC, Act.put, gD, gE, gF]
      first | (refine tR (i := 3) rfl rfl ?_) | (refine tL (i := 3) (v := ?vb18) rfl ?hyb18 ?rb18; case hyb18 => (rintro w' hS; obtain ⟨hs0, hs1, hs2, hs3⟩ := hS; go_simp; try with_reducible rfl))
      try simp only [gA, gB, gC, Act.put, gD, gE, gF]
      first | (refine tR (i := 4) rfl rfl ?_) | (refine tL (i := 4) (v := ?vb19) rfl ?hyb19 ?rb19; case hyb19 => (rintro w' hS; obtain ⟨hs0, hs1, hs2, hs3⟩ := hS; go_simp; try with_reducible rfl))
      try simp only [gA, gB, gC, Act.put, gD, gE, gF]
      refine wpAnyH_ready (rs := [5]) (by kernel_rfl) (by simp) ?_
      refine AllReadyH.cons (o := _) rfl (fun K hK => ?_) AllReadyH.nil
      refine step_delete (by rfl) (.tmp 34) (.tmp 35) 102 35 (by rfl) 43 keyedDot Tryz.underlying102 heldElem bq nq _ rfl hmq.drew _ _ rfl hdk ?_; intro w6 hm6 hk6; have ob6 := hR5.obj.drew.keeps hk6 (fun c => nqp c.symm); have od6 := od5.drew.keeps hk6 (fun c => nqd c.symm); have x0 := ob6.cell 1 rfl; rw [e0] at x0
      try dsimp only
      refine hK.out _ _ (⟨x0, od6.cell 0 rfl, od6.cell 1 rfl, od6.cell 2 rfl⟩) (fun hHeld => ?_)
      clear hK K
      try simp only [gA, gB, gC, Act.put, gD, gE, gF]
      refine wpAnyH_done (by kernel_rfl) ?_ _
      go_wp2
      go_ret
      have hb5 := (b9.trans (hx4.mono b9.size)).trans ((Below.refl w3.heap.size w3).drew.mono (b9.trans (hx4.mono b9.size)).size)
      refine ⟨?_, _, (Step.refl h hb5).trans (hfk _ w6 (h.below hb5) bq nq Dq e0 hDq hTq hm6 hk6)⟩
      first | (rw [hpl.out]; rfl) | (rw [hpl.out])
theorem look_out {rs : List EvR} (hs : SortedE (rs.map (·.e))) {d : DotN} : lookR rs d = none ↔ (rs.map (·.e)).length ≤ findE (rs.map (·.e)) d := by
  have h1 := find_look hs d
  constructor
  · intro h
    rw [h] at h1
    exact List.getElem?_eq_none_iff.1 h1
  · intro h
    rw [List.getElem?_eq_none_iff.2 h] at h1
    cases q : lookR rs d with
    | none => rfl
    | some r => rw [q] at h1; cases h1
theorem clear_not {m : MapN} {d : DotN} (h : ¬ (hasD m.dead d = true ∧ hasV m.ctx d = true ∧ m.kept.length ≤ findE m.kept d)) : clearM m d = (m, false) := by
  unfold clearM
  rw [if_neg h]
theorem Real.clear {w w' : World} {p : Nat} {B : Slots} {rs : List EvR} {m : MapN} (h : Real w p B rs m) {d : DotN} (hx : FitD d) (hl : lookR rs d = none) (hh : hasV m.ctx d = true) (hd : hasD m.dead d = true) {b n : Nat} {D : DataW Unit} (hb : B .dead = some b) (hD : SetD D m.dead) (hT : Go.Maps.Tidy D) (hm : w'.ownsMap Tryz.prog 35 unitElem b n (D.del (keyD d))) (hkp : Keeps (fun k => k = b) w w') : clearM m d = (⟨m.ctx, m.kept, m.dead.filter fun y => !sameD y d⟩, true) ∧ Step w w' p B rs B rs (clearM m d).1 := by
  have hle : m.kept.length ≤ findE m.kept d := h.rs ▸ (look_out h.sorted).1 hl
  have hcl : clearM m d = (⟨m.ctx, m.kept, m.dead.filter fun y => !sameD y d⟩, true) := by
    unfold clearM
    rw [if_pos ⟨hd, hh, hle⟩]
  refine ⟨hcl, ?_⟩
  have hok := clear_oks d h.ok
  rw [hcl] at hok ⊢
  have hP := h.parts
  have hnp : p ≠ b := fun e => h.not_obj .dead (e ▸ hb)
  have hkd := hD.del hT (sortedD_nodup h.ok.dead) hx
  have hne : ∀ e ∈ m.kept, e.dot ≠ d := by
    intro e he
    rw [← h.rs] at he
    obtain ⟨r, hr, rfl⟩ := List.mem_map.1 he
    exact lookR_none hl r hr
  have hdk : ∀ k, dotsK m.kept m.dead k = dotsK m.kept (m.dead.filter fun y => !sameD y d) k := fun k => (dotsK_clear hne k).symm
  have hP2 : Parts w' p B rs m.ctx (m.dead.filter fun y => !sameD y d) (dotsK m.kept m.dead) := by
    refine hP.set .dead (fun k q => by cases q) (fun _ _ => rfl) (hkp.mono fun k _ e => .inr (e ▸ hb)) (hP.obj.keeps hkp hnp) (fun b e => .inl e) (fun _ => rfl) (fun _ => rfl) (fun c => absurd rfl c) ?_ (fun y hy => ?_)
    · show SetIs w' (B .dead) _
      rw [hb]
      exact .inr ⟨b, n, _, rfl, hm, hkd⟩
    · exact over_keeps (hP.over y hy) hkp fun k hk1 hc => hP.over_apart y hy k hk1 (.inr ⟨.dead, hc ▸ hb⟩)
  exact ⟨Parts.real (m := ⟨m.ctx, m.kept, m.dead.filter fun y => !sameD y d⟩) hP2 hdk (fun k e => h.nothing k ((hdk k).trans e)) h.rs hok.1 h.few h.light, hkp.mono fun k _ e => .inr ⟨.dead, e ▸ hb⟩, fun i b e => .inl ⟨i, e⟩, fun k hk2 => .inl hk2⟩
set_option maxRecDepth 100000 in
set_option maxHeartbeats 4000000 in
theorem mClearI {w : World} {p : Nat} {B : Slots} {rs : List EvR} {m : MapN} (h : Real w p B rs m) (d : DotN) (hx : FitD d) : Calls Tryz.prog 25 #[.pointer (some ⟨p, 0, none⟩), .agg #[.int .i64 d.dev, .int .i64 d.inc, .int .i64 d.seq]] w fun e w' => e = .returned (.bool (clearM m d).2) ∧ ∃ rs', Step w w' p B rs B rs' (clearM m d).1 := by
  have HO := fun v => mOrNewS p v
  obtain ⟨o, ho⟩ : ∃ o, lookR rs d = o := ⟨_, rfl⟩
  obtain ⟨A, hA⟩ : ∃ A, (encO o).toArray = A := ⟨_, rfl⟩
  obtain ⟨is, his⟩ : ∃ is, o.isSome = is := ⟨_, rfl⟩
  have hLK : ∀ w', KeptIs w' (B .kept) rs → (Instr.lookup 102 (.map (B .kept)) (.agg #[.int .i64 d.dev, .int .i64 d.inc, .int .i64 d.seq]) true).run Tryz.prog w' = .ok (.tuple #[.agg A, .bool is]) w' := fun w' hk' => by
    have := (kept_look hk' hx).2
    rw [ho, hA, his] at this
    exact this
  have zA : A.size = 19 := by rw [← hA]; exact encO_size o
  have honeA : A.all (·.oneCell') = true := by rw [← hA]; exact encO_one o
  have hdk := key_dot hx
  have HD := fun v (hv : Real v p B rs m) => mDeadP hv.parts d hx
  have HH := fun v (hv : Real v p B rs m) => mHasA hv.arg d hx
  have hsome := fun r (e : o = some r) => clear_not (m := m) (d := d) fun c => by
    have h2 := (look_out h.sorted (d := d)).2 (by rw [h.rs]; exact c.2.2)
    rw [ho.trans e] at h2
    cases h2
  have hnoh := fun (e : hasV m.ctx d = false) => clear_not (m := m) (d := d) fun c => by rw [c.2.1] at e; cases e
  have hnod := fun (e : hasD m.dead d = false) => clear_not (m := m) (d := d) fun c => by rw [c.1] at e; cases e
  have hclr := fun (v v' : World) (hv : Real v p B rs m) (e : o = none) hh hd b n D hb hD hT hm hkp => Real.clear (w' := v') hv hx (ho.trans e) hh hd (b := b) (n := n) (D := D) hb hD hT hm hkp
  obtain ⟨dev, inc, seq⟩ := d
  dsimp only at *
  obtain ⟨bd, hbd⟩ : ∃ bd, w.heap.size = bd := ⟨_, rfl⟩
  have o1 := ObjAt.new w #[.int .i64 dev, .int .i64 inc, .int .i64 seq] 35
  have b1 := below_alloc w (.cells #[.int .i64 dev, .int .i64 inc, .int .i64 seq] 35)
  have h1 := h.below b1
  have hlp := h.obj.lt
  rw [hbd] at o1
  generalize hw1 : w.alloc (.cells #[.int .i64 dev, .int .i64 inc, .int .i64 seq] 35) = w1 at *
  have l1 := o1.lt
  have hS1 : ∀ v, Below w1.heap.size w1 v → v.cell? ⟨p, 1, none⟩ = some (.map (B .kept)) ∧ v.cell? ⟨bd, 0, none⟩ = some (.int .i64 dev) ∧ v.cell? ⟨bd, 1, none⟩ = some (.int .i64 inc) ∧ v.cell? ⟨bd, 2, none⟩ = some (.int .i64 seq) ∧ KeptIs v (B .kept) rs := fun v hv => ⟨(h1.below hv).obj.cell 1 rfl, (o1.below hv l1).cell 0 rfl, (o1.below hv l1).cell 1 rfl, (o1.below hv l1).cell 2 rfl, (h1.below hv).kept⟩
  have hb1 : Below w1.heap.size w1 w1.drew := (Below.refl _ _).drew
  obtain ⟨Z, hZ⟩ : ∃ Z, (#[.int .i64 0, .int .i64 0, .int .i64 0, .int .i64 0, .int .i64 0, .int .i64 0, .int .i64 0, .string ⟨#[]⟩, .string ⟨#[]⟩, .string ⟨#[]⟩, .string ⟨#[]⟩, .bool false, .bool false, .bool false, .bool false, .int .i64 0, .int .i64 0, .int .i64 0, .slice none 0 0] : Array Value) = Z := ⟨_, rfl⟩
  have zZ : Z.size = 19 := by rw [← hZ]; rfl
  have zZl : Z.toList.length = 19 := by rw [Array.length_toList]; exact zZ
  obtain ⟨bk, hbk⟩ : ∃ bk, w1.heap.size = bk := ⟨_, rfl⟩
  have o7 : ObjAt (w1.drew.alloc (.cells Z 43)) bk Z.toList := hbk ▸ ObjAt.new w1.drew Z 43
  have c7 : Below w1.heap.size w1 (w1.drew.alloc (.cells Z 43)) := hb1.trans ((below_alloc w1.drew (.cells Z 43)).mono (Nat.le_refl _))
  have c8 := below_rowSet c7 (g := bk) (Nat.le_of_eq hbk) A
  go_enter Tryz.func25, Tryz.ntmps25
  go_wp2_with (go_at_call 73; (with_reducible refine (HO _).mono ?_); rintro e w2 ⟨rfl, rfl⟩)
  go_wp2_with fail
  refine wp_region_held_drew (S := fun w' => w'.cell? ⟨p, 1, none⟩ = some (.map (B .kept)) ∧ w'.cell? ⟨bd, 0, none⟩ = some (.int .i64 dev) ∧ w'.cell? ⟨bd, 1, none⟩ = some (.int .i64 inc) ∧ w'.cell? ⟨bd, 2, none⟩ = some (.int .i64 seq) ∧ KeptIs w' (B .kept) rs) (by kernel_rfl) (hS1 _ hb1) (fun hHeld => ?_)
  first | (refine tR (i := 0) rfl rfl ?_) | (refine tL (i := 0) (v := ?vb1) rfl ?hyb1 ?rb1; case hyb1 => (rintro w' hS; obtain ⟨hs0, hs1, hs2, hs3, hs4⟩ := hS; go_simp; try with_reducible rfl))
  try simp only [gA, gB, Act.put, gD, gE, gF]
  first | (refine tR (i := 1) rfl rfl ?_) | (refine tL (i := 1) (v := ?vb2) rfl ?hyb2 ?rb2; case hyb2 => (rintro w' hS; obtain ⟨hs0, hs1, hs2, hs3, hs4⟩ := hS; go_simp; try with_reducible rfl))
  try simp only [gA, gB, gC, Act.put, gD, gE, gF]
  first | (refine tR (i := 2) rfl rfl ?_) | (refine tL (i := 2) (v := ?vb3) rfl ?hyb3 ?rb3; case hyb3 => (rintro w' hS; obtain ⟨hs0, hs1, hs2, hs3, hs4⟩ := hS; go_simp; try with_reducible rfl))
  try simp only [gA, gB, gC, Act.put, gD, gE, gF]
  first | (refine tR (i := 3) rfl rfl ?_) | (refine tL (i := 3) (v := ?vb4) rfl ?hyb4 ?rb4; case hyb4 => (rintro w' hS; obtain ⟨hs0, hs1, hs2, hs3, hs4⟩ := hS; go_simp; try with_reducible rfl))
  try simp only [gA, gB, gC, Act.put, gD, gE, gF]
  first | (refine tR (i := 4) rfl rfl ?_) | (refine tL (i := 4) (v := ?vb5) rfl ?hyb5 ?rb5; case hyb5 => (rintro w' hS; obtain ⟨hs0, hs1, hs2, hs3, hs4⟩ := hS; go_simp; try with_reducible rfl))
  try simp only [gA, gB, gC, Act.put, gD, gE, gF]
  refine wpAnyH_take (i := 5) (v := .tuple #[.agg A, .bool is]) rfl (by kernel_rfl) (by kernel_rfl) (by kernel_rfl) (fun _ _ _ h => h) (Or.inl ⟨by rfl, fun w' hS => by obtain ⟨hs0, hs1, hs2, hs3, hs4⟩ := hS; exact exec_look (.tmp 13) (.tmp 14) 102 true rfl _ rfl _ rfl (hLK w' hs4)⟩) (by assumption) ?_
  try simp only [gA, gB, gC, Act.put, gD, gE, gF]
  first | (refine tR (i := 6) rfl rfl ?_) | (refine tL (i := 6) (v := ?vb6) rfl ?hyb6 ?rb6; case hyb6 => (rintro w' hS; obtain ⟨hs0, hs1, hs2, hs3, hs4⟩ := hS; go_simp; try with_reducible rfl))
  try simp only [gA, gB, gC, Act.put, gD, gE, gF]
  first | (refine tR (i := 7) rfl rfl ?_) | (refine tL (i := 7) (v := ?vb7) rfl ?hyb7 ?rb7; case hyb7 => (rintro w' hS; obtain ⟨hs0, hs1, hs2, hs3, hs4⟩ := hS; go_simp; try with_reducible rfl))
  try simp only [gA, gB, gC, Act.put, gD, gE, gF]
  first | (refine tR (i := 8) rfl rfl ?_) | (refine tL (i := 8) (v := ?vb8) rfl ?hyb8 ?rb8; case hyb8 => (rintro w' hS; obtain ⟨hs0, hs1, hs2, hs3, hs4⟩ := hS; go_simp; try with_reducible rfl))
  try simp only [gA, gB, gC, Act.put, gD, gE, gF]
  refine wpAnyH_ready (rs := [9]) (by kernel_rfl) (by simp) ?_
  refine AllReadyH.cons (o := _) rfl (fun K hK => ?_) AllReadyH.nil
  go_simp
  skip
  try dsimp only
  refine hK.out _ _ (hS1 _ c7) (fun hHeld => ?_)
  clear hK K
  try simp only [gA, gB, gC, Act.put, gD, gE, gF]
  refine wpAnyH_ready (rs := [10]) (by kernel_rfl) (by simp) ?_
  refine AllReadyH.cons (o := _) rfl (fun K hK => ?_) AllReadyH.nil
  refine step_storeOver (by rfl) 43 (.tmp 5) (.tmp 16) (by rfl) bk Z.toList A 19 rfl rfl o7 (by kernel_rfl) zZl zA honeA ?_
  try dsimp only
  refine hK.out _ _ (hS1 _ c8) (fun hHeld => ?_)
  clear hK K
  try simp only [gA, gB, gC, Act.put, gD, gE, gF]
  first | (refine tR (i := 11) rfl rfl ?_) | (refine tL (i := 11) (v := ?vb9) rfl ?hyb9 ?rb9; case hyb9 => (rintro w' hS; obtain ⟨hs0, hs1, hs2, hs3, hs4⟩ := hS; go_simp; try with_reducible rfl))
  try simp only [gA, gB, gC, Act.put, gD, gE, gF]
  refine wpAnyH_done (by kernel_rfl) ?_ _
  have c9 : Below w1.heap.size w1 ((w1.alloc (.cells Z 43)).drew.setRow bk A) := c8
  clear c8
  have c8 := c9
  clear c9
  have R9 := h1.below c8
  have d9 := o1.below c8 l1
  have b9 := b1.trans (c8.mono b1.size)
  clear hS1 hb1 o7 c7 c8 h1 o1 hLK hHeld hZ
  generalize ((w1.alloc (.cells Z 43)).drew.setRow bk A) = w3 at *
  have z0 := d9.cell 0 rfl; have z1 := d9.cell 1 rfl; have z2 := d9.cell 2 rfl
  have ld9 := d9.lt
  have HH9 := HH _ R9
  clear HH
  cases o with
  | some r =>
    obtain rfl : is = true := his.symm
    have hpl := Lib.hid (hsome r rfl)
    clear hsome hnoh hnod hclr HD HH9
    go_wp2
    go_ret
    refine ⟨?_, rs, ?_⟩
    · first | (rw [hpl.out]; rfl) | (rw [hpl.out])
    · rw [hpl.out]
      exact Step.refl h b9
  | none =>
    obtain rfl : is = false := his.symm
    clear hsome
    cases hhv : hasV m.ctx ⟨dev, inc, seq⟩ with
    | false =>
      rw [hhv] at HH9
      have hpl := Lib.hid (hnoh hhv)
      clear hnoh hnod hclr HD
      go_wp2_with (go_at_call 36; (with_reducible refine HH9.mono ?_); rintro e w4 ⟨rfl, hx4⟩)
      go_ret
      refine ⟨?_, rs, ?_⟩
      · first | (rw [hpl.out]; rfl) | (rw [hpl.out])
      · rw [hpl.out]
        exact Step.refl h (b9.trans (hx4.mono b9.size))
    | true =>
      rw [hhv] at HH9
      have HDv := fun v (hv : Below w3.heap.size w3 v) => HD v (R9.below hv)
      clear HD
      cases hdd : hasD m.dead ⟨dev, inc, seq⟩ with
      | false =>
        simp only [hdd] at HDv
        have hpl := Lib.hid (hnod hdd)
        clear hnoh hnod hclr
        go_wp2_with (first | (go_at_call 36; (with_reducible refine HH9.mono ?_); rintro e w4 ⟨rfl, hx4⟩; have z0 := (d9.below hx4 ld9).cell 0 rfl; have z1 := (d9.below hx4 ld9).cell 1 rfl; have z2 := (d9.below hx4 ld9).cell 2 rfl; have HD4 := HDv _ hx4) | (go_at_call 38; (with_reducible refine HD4.mono ?_); rintro e w5 ⟨rfl, hx5⟩))
        go_ret
        refine ⟨?_, rs, ?_⟩
        · first | (rw [hpl.out]; rfl) | (rw [hpl.out])
        · rw [hpl.out]
          have b10 := b9.trans (hx4.mono b9.size)
          exact Step.refl h (b10.trans (hx5.mono b10.size))
      | true =>
        simp only [hdd] at HDv
        have hfk := fun (v v' : World) (hv : Real v p B rs m) => hclr v v' hv rfl hhv hdd
        clear hnoh hnod hclr
        obtain ⟨bq, nq, Dq, e0, hmq0, hDq⟩ : ∃ bq nq Dq, B .dead = some bq ∧ w3.ownsMap Tryz.prog 35 unitElem bq nq Dq ∧ SetD Dq m.dead := by
          rcases R9.dead with ⟨e, hn⟩ | ⟨b, n, D, e, hm, hD⟩
          · rw [hn] at hdd
            cases hdd
          · exact ⟨b, n, D, e, hm, hD⟩
        have nqp : bq ≠ p := fun c => R9.not_obj .dead (c ▸ e0)
        have nqd : bq ≠ bd := (ownsMap_blk hmq0).not_obj d9
        have hTq := hmq0.tidy keyedDot
        go_wp2_with (first | (go_at_call 36; (with_reducible refine HH9.mono ?_); rintro e w4 ⟨rfl, hx4⟩; have z0 := (d9.below hx4 ld9).cell 0 rfl; have z1 := (d9.below hx4 ld9).cell 1 rfl; have z2 := (d9.below hx4 ld9).cell 2 rfl; have HD4 := HDv _ hx4) | (go_at_call 38; (with_reducible refine HD4.mono ?_); rintro e w5 ⟨rfl, hx5⟩))
        have hx4 := hx4.trans (hx5.mono hx4.size)
        have hR5 := R9.below hx4
        have od5 := d9.below hx4 ld9
        have p0 := hR5.obj.cell 2 rfl
        rw [e0] at p0
        have y0 := od5.cell 0 rfl; have y1 := od5.cell 1 rfl; have y2 := od5.cell 2 rfl
        have hmq := (Keeps.new (F := fun _ => False) hx4).grownBy (fun h => h) hmq0
        refine wp_region_held_drew (S := fun w' => w'.cell? ⟨p, 2, none⟩ = some (.map (some bq)) ∧ w'.cell? ⟨bd, 0, none⟩ = some (.int .i64 dev) ∧ w'.cell? ⟨bd, 1, none⟩ = some (.int .i64 inc) ∧ w'.cell? ⟨bd, 2, none⟩ = some (.int .i64 seq)) (by kernel_rfl) (⟨p0, y0, y1, y2⟩) (fun hHeld => ?_)
        first | (refine tR (i := 0) rfl rfl ?_) | (refine tL (i := 0) (v := ?vb10) rfl ?hyb10 ?rb10; case hyb10 => (rintro w' hS; obtain ⟨hs0, hs1, hs2, hs3⟩ := hS; go_simp; try with_reducible rfl))
        try simp only [gA, gB, Act.put, gD, gE, gF]
        first | (refine tR (i := 1) rfl rfl ?_) | (refine tL (i := 1) (v := ?vb11) rfl ?hyb11 ?rb11; case hyb11 => (rintro w' hS; obtain ⟨hs0, hs1, hs2, hs3⟩ := hS; go_simp; try with_reducible rfl))
        try simp only [gA, gB, gC, Act.put, gD, gE, gF]
        first | (refine tR (i := 2) rfl rfl ?_) | (refine tL (i := 2) (v := ?vb12) rfl ?hyb12 ?rb12; case hyb12 => (rintro w' hS; obtain ⟨hs0, hs1, hs2, hs3⟩ := hS; go_simp; try with_reducible rfl))
        try simp only [gA, gB, gC, Act.put, gD, gE, gF]
        first | (refine tR (i := 3) rfl rfl ?_) | (refine tL (i := 3) (v := ?vb13) rfl ?hyb13 ?rb13; case hyb13 => (rintro w' hS; obtain ⟨hs0, hs1, hs2, hs3⟩ := hS; go_simp; try with_reducible rfl))
        try simp only [gA, gB, gC, Act.put, gD, gE, gF]
        first | (refine tR (i := 4) rfl rfl ?_) | (refine tL (i := 4) (v := ?vb14) rfl ?hyb14 ?rb14; case hyb14 => (rintro w' hS; obtain ⟨hs0, hs1, hs2, hs3⟩ := hS; go_simp; try with_reducible rfl))
        try simp only [gA, gB, gC, Act.put, gD, gE, gF]
        refine wpAnyH_ready (rs := [5]) (by kernel_rfl) (by simp) ?_
        refine AllReadyH.cons (o := _) rfl (fun K hK => ?_) AllReadyH.nil
        refine step_delete (by rfl) (.tmp 34) (.tmp 35) 103 35 (by rfl) 123 keyedDot Tryz.underlying103 unitElem bq nq _ rfl hmq.drew _ _ rfl hdk ?_; intro w6 hm6 hk6; have ob6 := hR5.obj.drew.keeps hk6 (fun c => nqp c.symm); have od6 := od5.drew.keeps hk6 (fun c => nqd c.symm); have x0 := ob6.cell 2 rfl; rw [e0] at x0
        try dsimp only
        refine hK.out _ _ (⟨x0, od6.cell 0 rfl, od6.cell 1 rfl, od6.cell 2 rfl⟩) (fun hHeld => ?_)
        clear hK K
        try simp only [gA, gB, gC, Act.put, gD, gE, gF]
        refine wpAnyH_done (by kernel_rfl) ?_ _
        go_wp2
        go_ret
        have hb5 := (b9.trans (hx4.mono b9.size)).trans ((Below.refl w5.heap.size w5).drew.mono (b9.trans (hx4.mono b9.size)).size)
        obtain ⟨hq1, hq2⟩ := hfk _ w6 (h.below hb5) bq nq Dq e0 hDq hTq hm6 hk6
        refine ⟨?_, _, (Step.refl h hb5).trans hq2⟩
        first | (rw [hq1]; rfl) | (rw [hq1])
theorem bare_none {m : MapN} {rs : List EvR} (hrs : rs.map (·.e) = m.kept) (hs : SortedE (rs.map (·.e))) {d : DotN} (h : lookR rs d = none) : bareM m d = (m, false) := by
  have h1 := find_look hs d
  rw [h, hrs] at h1
  unfold bareM
  rw [h1]
  rfl
theorem bare_stays {m : MapN} {rs : List EvR} (hrs : rs.map (·.e) = m.kept) (hs : SortedE (rs.map (·.e))) {d : DotN} {r : EvR} (h : lookR rs d = some r) (hk : ¬ (r.e.kind = 1 ∧ 0 < r.e.over.length)) : bareM m d = (m, false) := by
  have h1 := find_look hs d
  rw [h, hrs] at h1
  unfold bareM
  rw [h1]
  simp only [Option.map_some]
  rw [if_neg hk]
theorem bare_goes {m : MapN} {rs : List EvR} (hrs : rs.map (·.e) = m.kept) (hs : SortedE (rs.map (·.e))) {d : DotN} {r : EvR} (h : lookR rs d = some r) (hk : r.e.kind = 1 ∧ 0 < r.e.over.length) : bareM m d = (⟨m.ctx, m.kept.set (findE m.kept d) { r.e with over := [] }, m.dead⟩, true) := by
  have h1 := find_look hs d
  rw [h, hrs] at h1
  unfold bareM
  rw [h1]
  simp only [Option.map_some]
  rw [if_pos hk]
theorem map_set1 {α β : Type} (f : α → β) (x : α) : ∀ (l : List α) (i : Nat), (l.set i x).map f = (l.map f).set i (f x)
  | [], i => by simp
  | a :: t, 0 => by simp
  | a :: t, i + 1 => by simp [map_set1 f x t i]
def overNo (r : EvR) : EvR := ⟨{ r.e with over := [] }, none, 0⟩
theorem Real.bare {w w' : World} {p : Nat} {B : Slots} {rs : List EvR} {m : MapN} (h : Real w p B rs m) {d : DotN} {r : EvR} (hl : lookR rs d = some r) (hk : r.e.kind = 1 ∧ 0 < r.e.over.length) {b n : Nat} {D : DataW Value} (hb : B .kept = some b) (hD : KeptD D rs) (hT : Go.Maps.Tidy D) (hm : w'.ownsMap Tryz.prog 35 heldElem b n (D.put (keyD d) (.held (.agg (encE (overNo r)).toArray)))) (hkp : Keeps (fun k => k = b) w w') : Step w w' p B rs B (rs.set (findE m.kept d) (overNo r)) (bareM m d).1 := by
  obtain ⟨hr1, hrd⟩ := lookR_some hl
  have hi := look_at h.sorted hl
  rw [h.rs] at hi
  have hx : FitD r.e.dot := h.fit (h.rs ▸ List.mem_map.2 ⟨r, hr1, rfl⟩)
  have hkd := hD.bare hT h.sorted (q := overNo r) hi hx rfl
  rw [hrd] at hkd
  have hfo := bare_oks d h.ok
  have hli := bare_in (m := m) d
  rw [bare_goes h.rs h.sorted hl hk] at hfo hli ⊢
  have hP := h.parts
  have hnp : p ≠ b := fun e => h.not_obj .kept (e ▸ hb)
  have hmem : ∀ y ∈ rs.set (findE m.kept d) (overNo r), y ∈ rs ∨ y = overNo r := fun y hy => List.mem_or_eq_of_mem_set hy
  have hP2 : Parts w' p B (rs.set (findE m.kept d) (overNo r)) m.ctx m.dead (dotsK m.kept m.dead) := by
    refine hP.set .kept (fun k q => by cases q) (fun _ _ => rfl) (hkp.mono fun k _ e => .inr (e ▸ hb)) (hP.obj.keeps hkp hnp) (fun b e => .inl e) (fun c => absurd rfl c) (fun _ => rfl) (fun _ => rfl) ?_ (fun y hy => ?_)
    · show KeptIs w' (B .kept) _
      rw [hb]
      exact .inr ⟨b, n, _, rfl, hm, hkd⟩
    · rcases hmem y hy with hy2 | rfl
      · exact over_keeps (hP.over y hy2) hkp fun k hk1 hc => hP.over_apart y hy2 k hk1 (.inr ⟨.kept, hc ▸ hb⟩)
      · exact ⟨rfl, Nat.le_refl _, Nat.zero_le _, fun _ => rfl, fun i x hx => by cases hx⟩
  have hki : m.kept[findE m.kept d]? = some r.e := by
    have := find_look h.sorted d
    rw [hl, h.rs] at this
    exact this
  have hdk : ∀ k, dotsK m.kept m.dead k = dotsK (m.kept.set (findE m.kept d) { r.e with over := [] }) m.dead k := fun k => (dotsK_bare hki k).symm
  refine ⟨Parts.real (m := ⟨m.ctx, m.kept.set (findE m.kept d) { r.e with over := [] }, m.dead⟩) hP2 hdk (fun k e => h.nothing k ((hdk k).trans e)) ?_ hfo.1 (Nat.le_trans hfo.2 h.few) (fun e he => ?_), hkp.mono fun k _ e => .inr ⟨.kept, e ▸ hb⟩, fun i b e => .inl ⟨i, e⟩, fun k hk2 => ?_⟩
  · rw [map_set1, h.rs]
    rfl
  · rcases hli.1 e he with he | ⟨x, hx2, rfl⟩
    · exact h.light e he
    · exact light_bare (h.light x hx2)
  · obtain ⟨y, hy, hk3⟩ := hk2
    rcases hmem y hy with hy2 | rfl
    · exact .inl ⟨y, hy2, hk3⟩
    · exact absurd hk3 (at_none k)
set_option maxRecDepth 100000 in
set_option maxHeartbeats 4000000 in
theorem mBareI {w : World} {p : Nat} {B : Slots} {rs : List EvR} {m : MapN} (h : Real w p B rs m) (d : DotN) (hx : FitD d) : Calls Tryz.prog 23 #[.pointer (some ⟨p, 0, none⟩), .agg #[.int .i64 d.dev, .int .i64 d.inc, .int .i64 d.seq]] w fun e w' => e = .returned (.bool (bareM m d).2) ∧ ∃ rs', Step w w' p B rs B rs' (bareM m d).1 := by
  have HO := fun v => mOrNewS p v
  obtain ⟨o, ho⟩ : ∃ o, lookR rs d = o := ⟨_, rfl⟩
  obtain ⟨A, hA⟩ : ∃ A, (encO o).toArray = A := ⟨_, rfl⟩
  have hLK : ∀ w', KeptIs w' (B .kept) rs → (Instr.lookup 102 (.map (B .kept)) (.agg #[.int .i64 d.dev, .int .i64 d.inc, .int .i64 d.seq]) false).run Tryz.prog w' = .ok (.agg A) w' := fun w' hk' => by
    have := (kept_look hk' hx).1
    rw [ho, hA] at this
    exact this
  have zA : A.size = 19 := by rw [← hA]; exact encO_size o
  have honeA : A.all (·.oneCell') = true := by rw [← hA]; exact encO_one o
  have hi6 : A.toList[6]? = some (.int .i64 (kindO o)) := by rw [← hA]; cases o <;> rfl
  have hi18 := fun r (e : o = some r) => (show A.toList[18]? = some (.slice r.a r.e.over.length r.c) from by rw [← hA, e]; rfl)
  have hA18 := fun r (e : o = some r) => (show A.toList.set 18 (.slice none 0 0) = (encE (overNo r)).toArray.toList from by rw [← hA, e]; rfl)
  have hdk := key_dot hx
  have hnone := fun (e : o = none) => bare_none h.rs h.sorted (ho.trans e)
  have hstay := fun r (e : o = some r) hk => bare_stays h.rs h.sorted (ho.trans e) hk
  have hgo := fun r (e : o = some r) hk => bare_goes h.rs h.sorted (ho.trans e) hk
  have hbar := fun (v v' : World) (hv : Real v p B rs m) r (e : o = some r) hk b n D hb hD hT hm hkp => Real.bare (w' := v') hv (ho.trans e) hk (b := b) (n := n) (D := D) hb hD hT hm hkp
  obtain ⟨dev, inc, seq⟩ := d
  dsimp only at *
  obtain ⟨bd, hbd⟩ : ∃ bd, w.heap.size = bd := ⟨_, rfl⟩
  have o1 := ObjAt.new w #[.int .i64 dev, .int .i64 inc, .int .i64 seq] 35
  have b1 := below_alloc w (.cells #[.int .i64 dev, .int .i64 inc, .int .i64 seq] 35)
  have h1 := h.below b1
  have hlp := h.obj.lt
  rw [hbd] at o1
  generalize hw1 : w.alloc (.cells #[.int .i64 dev, .int .i64 inc, .int .i64 seq] 35) = w1 at *
  have l1 := o1.lt
  have hS1 : ∀ v, Below w1.heap.size w1 v → v.cell? ⟨p, 1, none⟩ = some (.map (B .kept)) ∧ v.cell? ⟨bd, 0, none⟩ = some (.int .i64 dev) ∧ v.cell? ⟨bd, 1, none⟩ = some (.int .i64 inc) ∧ v.cell? ⟨bd, 2, none⟩ = some (.int .i64 seq) ∧ KeptIs v (B .kept) rs := fun v hv => ⟨(h1.below hv).obj.cell 1 rfl, (o1.below hv l1).cell 0 rfl, (o1.below hv l1).cell 1 rfl, (o1.below hv l1).cell 2 rfl, (h1.below hv).kept⟩
  have hb1 : Below w1.heap.size w1 w1.drew := (Below.refl _ _).drew
  obtain ⟨Z, hZ⟩ : ∃ Z, (#[.int .i64 0, .int .i64 0, .int .i64 0, .int .i64 0, .int .i64 0, .int .i64 0, .int .i64 0, .string ⟨#[]⟩, .string ⟨#[]⟩, .string ⟨#[]⟩, .string ⟨#[]⟩, .bool false, .bool false, .bool false, .bool false, .int .i64 0, .int .i64 0, .int .i64 0, .slice none 0 0] : Array Value) = Z := ⟨_, rfl⟩
  have zZ : Z.size = 19 := by rw [← hZ]; rfl
  have zZl : Z.toList.length = 19 := by rw [Array.length_toList]; exact zZ
  obtain ⟨bk, hbk⟩ : ∃ bk, w1.heap.size = bk := ⟨_, rfl⟩
  have o7 : ObjAt (w1.drew.alloc (.cells Z 43)) bk Z.toList := hbk ▸ ObjAt.new w1.drew Z 43
  have c7 : Below w1.heap.size w1 (w1.drew.alloc (.cells Z 43)) := hb1.trans ((below_alloc w1.drew (.cells Z 43)).mono (Nat.le_refl _))
  have c8 := below_rowSet c7 (g := bk) (Nat.le_of_eq hbk) A
  have lbd : bd < bk := by rw [← hbk]; exact l1
  go_enter Tryz.func23, Tryz.ntmps23
  go_wp2_with (go_at_call 73; (with_reducible refine (HO _).mono ?_); rintro e w2 ⟨rfl, rfl⟩)
  go_wp2_with fail
  refine wp_region_held_drew (S := fun w' => w'.cell? ⟨p, 1, none⟩ = some (.map (B .kept)) ∧ w'.cell? ⟨bd, 0, none⟩ = some (.int .i64 dev) ∧ w'.cell? ⟨bd, 1, none⟩ = some (.int .i64 inc) ∧ w'.cell? ⟨bd, 2, none⟩ = some (.int .i64 seq) ∧ KeptIs w' (B .kept) rs) (by kernel_rfl) (hS1 _ hb1) (fun hHeld => ?_)
  first | (refine tR (i := 0) rfl rfl ?_) | (refine tL (i := 0) (v := ?vb1) rfl ?hyb1 ?rb1; case hyb1 => (rintro w' hS; obtain ⟨hs0, hs1, hs2, hs3, hs4⟩ := hS; go_simp; try with_reducible rfl))
  try simp only [gA, gB, Act.put, gD, gE, gF]
  first | (refine tR (i := 1) rfl rfl ?_) | (refine tL (i := 1) (v := ?vb2) rfl ?hyb2 ?rb2; case hyb2 => (rintro w' hS; obtain ⟨hs0, hs1, hs2, hs3, hs4⟩ := hS; go_simp; try with_reducible rfl))
  try simp only [gA, gB, gC, Act.put, gD, gE, gF]
  first | (refine tR (i := 2) rfl rfl ?_) | (refine tL (i := 2) (v := ?vb3) rfl ?hyb3 ?rb3; case hyb3 => (rintro w' hS; obtain ⟨hs0, hs1, hs2, hs3, hs4⟩ := hS; go_simp; try with_reducible rfl))
  try simp only [gA, gB, gC, Act.put, gD, gE, gF]
  first | (refine tR (i := 3) rfl rfl ?_) | (refine tL (i := 3) (v := ?vb4) rfl ?hyb4 ?rb4; case hyb4 => (rintro w' hS; obtain ⟨hs0, hs1, hs2, hs3, hs4⟩ := hS; go_simp; try with_reducible rfl))
  try simp only [gA, gB, gC, Act.put, gD, gE, gF]
  first | (refine tR (i := 4) rfl rfl ?_) | (refine tL (i := 4) (v := ?vb5) rfl ?hyb5 ?rb5; case hyb5 => (rintro w' hS; obtain ⟨hs0, hs1, hs2, hs3, hs4⟩ := hS; go_simp; try with_reducible rfl))
  try simp only [gA, gB, gC, Act.put, gD, gE, gF]
  refine wpAnyH_take (i := 5) (v := .agg A) rfl (by kernel_rfl) (by kernel_rfl) (by kernel_rfl) (fun _ _ _ h => h) (Or.inl ⟨by rfl, fun w' hS => by obtain ⟨hs0, hs1, hs2, hs3, hs4⟩ := hS; exact exec_look (.tmp 11) (.tmp 12) 102 false rfl _ rfl _ rfl (hLK w' hs4)⟩) (by assumption) ?_
  try simp only [gA, gB, gC, Act.put, gD, gE, gF]
  refine wpAnyH_ready (rs := [6]) (by kernel_rfl) (by simp) ?_
  refine AllReadyH.cons (o := _) rfl (fun K hK => ?_) AllReadyH.nil
  go_simp
  skip
  try dsimp only
  refine hK.out _ _ (hS1 _ c7) (fun hHeld => ?_)
  clear hK K
  try simp only [gA, gB, gC, Act.put, gD, gE, gF]
  refine wpAnyH_ready (rs := [7]) (by kernel_rfl) (by simp) ?_
  refine AllReadyH.cons (o := _) rfl (fun K hK => ?_) AllReadyH.nil
  refine step_storeOver (by rfl) 43 (.tmp 5) (.tmp 13) (by rfl) bk Z.toList A 19 rfl rfl o7 (by kernel_rfl) zZl zA honeA ?_
  try dsimp only
  refine hK.out _ _ (hS1 _ c8) (fun hHeld => ?_)
  clear hK K
  try simp only [gA, gB, gC, Act.put, gD, gE, gF]
  refine wpAnyH_done (by kernel_rfl) ?_ _
  have o9 : ObjAt ((w1.alloc (.cells Z 43)).drew.setRow bk A) bk A.toList := o7.setRow A
  have c9 : Below w1.heap.size w1 ((w1.alloc (.cells Z 43)).drew.setRow bk A) := c8
  clear c8
  have c8 := c9
  clear c9
  have R9 := h1.below c8
  have d9 := o1.below c8 l1
  have b9 := b1.trans (c8.mono b1.size)
  have hlpk : p < bk := by rw [← hbk]; exact h1.obj.lt
  have hwbk : w.heap.size ≤ bk := by omega
  clear hS1 hb1 o7 c7 c8 h1 o1 hLK hHeld hZ
  generalize ((w1.alloc (.cells Z 43)).drew.setRow bk A) = w3 at *
  have y6 := o9.cell 6 hi6
  have z0 := d9.cell 0 rfl; have z1 := d9.cell 1 rfl; have z2 := d9.cell 2 rfl
  have ld9 := d9.lt
  cases o with
  | none =>
    have hpl := Lib.hid (hnone rfl)
    rw [show kindO none = 0 from rfl] at y6
    clear hnone hstay hgo hbar hi18 hA18
    go_wp2
    go_ret
    refine ⟨?_, rs, ?_⟩
    · first | (rw [hpl.out]; rfl) | (rw [hpl.out])
    · rw [hpl.out]
      exact Step.refl h b9
  | some r =>
    have hst := hstay r rfl
    have hgs := hgo r rfl
    have hfr := fun (v v' : World) (hv : Real v p B rs m) hk b n D hb hD hT hm hkp => hbar v v' hv r rfl hk b n D hb hD hT hm hkp
    have y18 := o9.cell 18 (hi18 r rfl)
    have hA2 := hA18 r rfl
    clear hnone hstay hgo hbar hi18 hA18
    obtain ⟨kd, hkd⟩ : ∃ kd, r.e.kind = kd := ⟨_, rfl⟩
    rw [show kindO (some r) = r.e.kind from rfl, hkd] at y6
    obtain ⟨L, hL⟩ : ∃ L, r.e.over.length = L := ⟨_, rfl⟩
    rw [hL] at y18
    rw [hkd, hL] at hst hgs
    simp only [hkd, hL] at hfr
    obtain ⟨ra, hra⟩ : ∃ x, r.a = x := ⟨_, rfl⟩
    obtain ⟨rc, hrc⟩ : ∃ x, r.c = x := ⟨_, rfl⟩
    rw [hra, hrc] at y18
    obtain ⟨A2, hA2e⟩ : ∃ X, (encE (overNo r)).toArray = X := ⟨_, rfl⟩
    rw [show encE (overNo r) = A2.toList from by rw [← hA2e]] at hA2
    simp only [hA2e] at hfr
    have zA2 : A2.size = 19 := by rw [← hA2e]; rfl
    by_cases hk1 : kd = 1
    · subst hk1
      by_cases hL0 : L = 0
      · subst hL0
        have hpl := Lib.hid (hst (fun c => Nat.lt_irrefl _ c.2))
        clear hst hgs hfr
        go_wp2
        go_ret
        refine ⟨?_, rs, ?_⟩
        · first | (rw [hpl.out]; rfl) | (rw [hpl.out])
        · rw [hpl.out]
          exact Step.refl h b9
      · have t2 : ((L : Int) == 0) = false := by simpa using hL0
        have hpl := Lib.hid (hgs ⟨rfl, Nat.pos_of_ne_zero hL0⟩)
        have hfk := fun (v v' : World) (hv : Real v p B rs m) => hfr v v' hv ⟨rfl, Nat.pos_of_ne_zero hL0⟩
        clear hst hgs hfr
        obtain ⟨bq, nq, Dq, e0, hmq0, hDq⟩ : ∃ bq nq Dq, B .kept = some bq ∧ w3.ownsMap Tryz.prog 35 heldElem bq nq Dq ∧ KeptD Dq rs := by
          rcases R9.kept with ⟨e, hn⟩ | ⟨b, n, D, e, hm, hD⟩
          · rw [hn] at ho
            cases ho
          · exact ⟨b, n, D, e, hm, hD⟩
        have nqp : bq ≠ p := fun c => R9.not_obj .kept (c ▸ e0)
        have nqd : bq ≠ bd := (ownsMap_blk hmq0).not_obj d9
        have nqk : bq ≠ bk := (ownsMap_blk hmq0).not_obj o9
        have hTq := hmq0.tidy keyedDot
        have hsz : Go.Maps.size Dq ≤ 2048 := by
          rw [hDq.size, ← List.length_map (f := fun r : EvR => r.e), R9.rs]
          exact R9.few
        have fr := o9.free 18
        have hR5 := R9.obj.other (p := ⟨bk, 18, none⟩) (by dsimp only; omega) (.slice none 0 0)
        have od5 := d9.other (p := ⟨bk, 18, none⟩) (by dsimp only; omega) (.slice none 0 0)
        have ok5 := o9.set 18 (.slice none 0 0)
        rw [hA2] at ok5
        have p0 := hR5.drew.cell 1 rfl
        rw [e0] at p0
        have hb6 : Below w.heap.size w (w3.setCell ⟨bk, 18, none⟩ (.slice none 0 0)) := b9.setCell (p := ⟨bk, 18, none⟩) hwbk (.slice none 0 0)
        have hmq := ownsMap_tight (show (w3.setCell ⟨bk, 18, none⟩ (.slice none 0 0)).ownsMap Tryz.prog 35 heldElem bq nq Dq from ((Keeps.new (F := fun k => k = bk) (Below.refl w3.heap.size w3)).setCell (x := ⟨bk, 18, none⟩) rfl (.slice none 0 0)).grownBy nqk hmq0)
        go_wp2
        have y0 := od5.cell 0 rfl; have y1 := od5.cell 1 rfl; have y2 := od5.cell 2 rfl
        refine wp_region_held_drew (S := fun w' => w'.cell? ⟨p, 1, none⟩ = some (.map (some bq)) ∧ w'.cell? ⟨bd, 0, none⟩ = some (.int .i64 dev) ∧ w'.cell? ⟨bd, 1, none⟩ = some (.int .i64 inc) ∧ w'.cell? ⟨bd, 2, none⟩ = some (.int .i64 seq) ∧ ObjAt w' bk A2.toList) (by kernel_rfl) (⟨p0, od5.drew.cell 0 rfl, od5.drew.cell 1 rfl, od5.drew.cell 2 rfl, ok5.drew⟩) (fun hHeld => ?_)
        first | (refine tR (i := 0) rfl rfl ?_) | (refine tL (i := 0) (v := ?vb6) rfl ?hyb6 ?rb6; case hyb6 => (rintro w' hS; obtain ⟨hs0, hs1, hs2, hs3, hs4⟩ := hS; go_simp; try with_reducible rfl))
        try simp only [gA, gB, Act.put, gD, gE, gF]
        first | (refine tR (i := 1) rfl rfl ?_) | (refine tL (i := 1) (v := ?vb7) rfl ?hyb7 ?rb7; case hyb7 => (rintro w' hS; obtain ⟨hs0, hs1, hs2, hs3, hs4⟩ := hS; go_simp; try with_reducible rfl))
        try simp only [gA, gB, gC, Act.put, gD, gE, gF]
        first | (refine tR (i := 2) rfl rfl ?_) | (refine tL (i := 2) (v := ?vb8) rfl ?hyb8 ?rb8; case hyb8 => (rintro w' hS; obtain ⟨hs0, hs1, hs2, hs3, hs4⟩ := hS; go_simp; try with_reducible rfl))
        try simp only [gA, gB, gC, Act.put, gD, gE, gF]
        first | (refine tR (i := 3) rfl rfl ?_) | (refine tL (i := 3) (v := ?vb9) rfl ?hyb9 ?rb9; case hyb9 => (rintro w' hS; obtain ⟨hs0, hs1, hs2, hs3, hs4⟩ := hS; go_simp; try with_reducible rfl))
        try simp only [gA, gB, gC, Act.put, gD, gE, gF]
        first | (refine tR (i := 4) rfl rfl ?_) | (refine tL (i := 4) (v := ?vb10) rfl ?hyb10 ?rb10; case hyb10 => (rintro w' hS; obtain ⟨hs0, hs1, hs2, hs3, hs4⟩ := hS; go_simp; try with_reducible rfl))
        try simp only [gA, gB, gC, Act.put, gD, gE, gF]
        refine wpAnyH_take (i := 5) rfl (by kernel_rfl) (by kernel_rfl) (by kernel_rfl) (fun _ _ _ h => h) (Or.inl ⟨by rfl, fun w' hS => (by obtain ⟨hs0, hs1, hs2, hs3, hs4⟩ := hS; exact execLoadAll 43 _ rfl bk 19 A2 rfl hs4 Tryz.isAgg43 Tryz.sizeOf43 zA2)⟩) (by assumption) ?_
        try simp only [gA, gB, gC, Act.put, gD, gE, gF]
        refine wpAnyH_ready (rs := [6]) (by kernel_rfl) (by simp) ?_
        refine AllReadyH.cons (o := _) rfl (fun K hK => ?_) AllReadyH.nil
        refine step_mapUpdate (by rfl) (.tmp 27) (.tmp 28) (.tmp 29) 102 (by rfl) 35 43 keyedDot Tryz.underlying102 heldElem bq _ _ rfl hmq.drew (by first | omega | (unfold maxLen; omega)) _ _ _ rfl rfl hdk _ _ held_store ?_; intro w9 hM9 hk9; have ob9 := hR5.drew.keeps hk9 (fun c => nqp c.symm); have od9 := od5.drew.keeps hk9 (fun c => nqd c.symm); have ok9 := ok5.drew.keeps hk9 (fun c => nqk c.symm); have x0 := ob9.cell 1 rfl; rw [e0] at x0
        try dsimp only
        refine hK.out _ _ (⟨x0, od9.cell 0 rfl, od9.cell 1 rfl, od9.cell 2 rfl, ok9⟩) (fun hHeld => ?_)
        clear hK K
        try simp only [gA, gB, gC, Act.put, gD, gE, gF]
        refine wpAnyH_done (by kernel_rfl) ?_ _
        go_wp2
        go_ret
        have hb7 := hb6.drew
        refine ⟨?_, _, (Step.refl h hb7).trans (hfk _ w9 (h.below hb7) bq _ Dq e0 hDq hTq hM9 hk9)⟩
        first | (rw [hpl.out]; rfl) | (rw [hpl.out])
    · have t1 : (kd == 1) = false := by simpa using hk1
      have t2 : (kd != 1) = true := by simpa using hk1
      have hpl := Lib.hid (hst (fun c => hk1 c.1))
      clear hst hgs hfr
      go_wp2
      go_ret
      refine ⟨?_, rs, ?_⟩
      · first | (rw [hpl.out]; rfl) | (rw [hpl.out])
      · rw [hpl.out]
        exact Step.refl h b9
end Go.Proofs.YtaodjnkjjmhecaaGreatDoor
