/- A region that draws its order and makes memory, walked once: by what each operation leaves behind, whatever came before it. Condition: none. -/
import Derived.Orders
import Derived.Below
import Derived.ProofKit
namespace Go.Proofs.YtoeolfegmklbaaaGreat.InvR
open Go Go.RowKit
set_option maxRecDepth 100000
set_option linter.unusedVariables false
set_option linter.unusedSimpArgs false

section
variable {P : Program} {ops : Array Oper} {Q : Exit → Act → World → Prop} {md : Region.Mode}
theorem ready_false {L : Array Bool} {i : Nat} (hL : L.size = ops.size) (hi : i ∈ Region.ready md ops L) : ∃ h : i < L.size, L[i] = false := by
 unfold Region.ready at hi
 rw [List.mem_filter] at hi
 obtain ⟨h0, h1⟩ := hi
 have h2 : i < L.size := by rw [hL]; exact List.mem_range.1 h0
 rw [Bool.and_eq_true] at h1
 have h3 := h1.1
 simp [Array.getD, h2] at h3
 exact ⟨h2, h3⟩
theorem ready_dep {L : Array Bool} {i : Nat} {o : Oper} (hi : i ∈ Region.ready md ops L) (ho : ops[i]? = some o) : ∀ e ∈ o.after, Region.binds md e = true → L[e.on]? = some true := by
 unfold Region.ready at hi
 rw [List.mem_filter] at hi
 obtain ⟨h0, h1⟩ := hi
 rw [Bool.and_eq_true, ho] at h1
 have h2 := h1.2
 simp only [Option.map_some, Option.getD_some, Array.all_eq_true', Bool.or_eq_true, Bool.not_eq_true'] at h2
 intro e he hb
 rcases h2 e he with h | h
 ·rw [hb] at h; cases h
 ·cases hc : L[e.on]? with
  | none => rw [Array.getD_eq_getD_getElem?, hc] at h; simp at h
  | some x => rw [Array.getD_eq_getD_getElem?, hc] at h; simp at h; rw [h]
theorem ready_mem {L : Array Bool} {i : Nat} {o : Oper} (h : i < ops.size) (hf : L[i]? = some false) (ho : ops[i]? = some o) (hd : ∀ e ∈ o.after, Region.binds md e = true → L[e.on]? = some true) : i ∈ Region.ready md ops L := by
 unfold Region.ready
 rw [List.mem_filter]
 refine ⟨List.mem_range.2 h, ?_⟩
 rw [ho, Array.getD_eq_getD_getElem?, hf]
 simp only [Option.getD_some, Bool.not_false, Bool.true_and, Option.map_some, Array.all_eq_true', Bool.or_eq_true, Bool.not_eq_true']
 intro e he
 cases hb : Region.binds md e with
 | false => exact .inl rfl
 | true =>
  refine .inr ?_
  rw [Array.getD_eq_getD_getElem?, hd e he hb]
  rfl
def open_ (L : Array Bool) : Nat := L.toList.count false
theorem open_set {L : Array Bool} {i : Nat} (h : i < L.size) (hf : L[i] = false) : open_ (L.setIfInBounds i true) + 1 = open_ L := by
 unfold open_
 have hm : false ∈ L.toList := by rw [← hf]; exact Array.getElem_mem_toList h
 have hp := List.count_pos_iff.2 hm
 rw [Array.toList_setIfInBounds, List.count_set (by simpa using h)]
 have e : (L.toList[i]'(by simpa using h)) = false := by simpa using hf
 rw [e, if_pos (show (false == false) = true from rfl), if_neg (show ¬ (true == false) = true by decide)]
 omega
/-- By a condition of what is listed. -/
theorem any_inv (J : Array Bool → Act → World → Prop)
  (hs : ∀ L a w i, L.size = ops.size → i ∈ Region.ready md ops L → J L a w → wpOp P ops Q i (fun a' w' => J (L.setIfInBounds i true) a' w') a w)
  (hd : ∀ L a w, L.size = ops.size → Region.ready md ops L = [] → J L a w → Q .normal a w) :
  ∀ fuel L a w, open_ L ≤ fuel → L.size = ops.size → J L a w → wpAny P md ops Q fuel L a w
 | 0, L, a, w, hf, hL, hJ => by
  have hr : Region.ready md ops L = [] := by
   cases hr : Region.ready md ops L with
   | nil => rfl
   | cons i r =>
    obtain ⟨h1, h2⟩ := ready_false hL (show i ∈ Region.ready md ops L by rw [hr]; simp)
    have := open_set h1 h2
    omega
  exact ⟨hr, hd L a w hL hr hJ⟩
 | fuel + 1, L, a, w, hf, hL, hJ => by
  refine ⟨fun hr => hd L a w hL hr hJ, fun i hi => ?_⟩
  obtain ⟨h1, h2⟩ := ready_false hL hi
  have h3 := open_set h1 h2
  exact wpOp_mono (fun a' w' hJ' => any_inv J hs hd fuel _ a' w' (by omega) (by simp [hL]) hJ') (hs L a w i hL hi hJ)
theorem put_at {a : Act} {t : Nat} {v : Value} (h : t < a.tmps.size) : (a.put (some t) v).tmps.getD t undef = v := by
 simp [Act.put, Array.getD, h]
theorem put_other {a : Act} {t t' : Nat} {v : Value} (h : t' ≠ t) : (a.put (some t) v).tmps.getD t' undef = a.tmps.getD t' undef := by
 rw [Array.getD_eq_getD_getElem?, Array.getD_eq_getD_getElem?]
 simp only [Act.put]
 rw [Array.getElem?_setIfInBounds_ne (by omega)]

/-- What the listed ones have left behind: each a value (in its slot) and blocks of its own. -/
structure Inv (W : World) (a0 : Act) (n : Nat) (dst : Nat → Nat) (F : Nat → Value → List Nat → World → Prop) (T : Nat → List Nat) (L : Array Bool) (D : Nat → List Nat) (a : Act) (w : World) : Prop where
 below : Below W.heap.size W w
 size : a.tmps.size = a0.tmps.size
 defers : a.defers = a0.defers
 old : ∀ t, (∀ i, i < n → dst i ≠ t) → a.tmps.getD t undef = a0.tmps.getD t undef
 fact : ∀ i, i < n → L[i]? = some true → (∀ k, i ∈ T k → L[k]? = some false) → F i (a.tmps.getD (dst i) undef) (D i) w
 fresh : ∀ i, ∀ y ∈ D i, W.heap.size ≤ y ∧ y < w.heap.size
 nodup : ∀ i, (D i).Nodup
 disj : ∀ i j, i ≠ j → ∀ y ∈ D i, y ∉ D j
theorem Inv.step {W : World} {a0 : Act} {n : Nat} {dst : Nat → Nat} {F : Nat → Value → List Nat → World → Prop} {L : Array Bool} {D : Nat → List Nat} {a : Act} {w w' : World} {i : Nat} {v : Value} {d : List Nat} {T : Nat → List Nat}
  (h : Inv W a0 n dst F T L D a w) (hi : i < n) (hL : i < L.size) (hinj : ∀ j, j < n → dst j = dst i → j = i) (hrg : dst i < a0.tmps.size) (hF : ∀ i v d w w', F i v d w → Below w.heap.size w w' → F i v d w')
  (hb : Below w.heap.size w w') (hv : F i v d w') (hf : ∀ y ∈ d, w.heap.size ≤ y ∧ y < w'.heap.size ∨ ∃ j ∈ T i, y ∈ D j) (hn : d.Nodup) :
  ∃ D', Inv W a0 n dst F T (L.setIfInBounds i true) D' (a.put (some (dst i)) v) w' := by
 refine ⟨fun j => if j = i then d else if j ∈ T i then [] else D j, ⟨h.below.trans (hb.mono h.below.size), ?_, ?_, ?_, ?_, ?_, ?_, ?_⟩⟩
 ·simp [Act.put, h.size]
 ·simpa [Act.put] using h.defers
 ·intro t ht
  rw [put_other (fun e => ht i hi e.symm)]
  exact h.old t ht
 ·intro j hj hl hu
  by_cases e : j = i
  ·subst e
   simp only [if_pos rfl]
   rw [put_at (by rw [h.size]; exact hrg)]
   exact hv
  ·have e3 : j ∉ T i := fun e3 => by
    have := hu i e3
    rw [Array.getElem?_setIfInBounds_self_of_lt hL] at this
    simp at this
   simp only [if_neg e, if_neg e3]
   rw [put_other (fun e2 => e (hinj j hj e2))]
   rw [Array.getElem?_setIfInBounds_ne (by omega)] at hl
   refine hF _ _ _ _ _ (h.fact j hj hl (fun k hk => ?_)) hb
   have := hu k hk
   by_cases e4 : k = i
   ·subst e4; exact absurd hk e3
   ·rwa [Array.getElem?_setIfInBounds_ne (by omega)] at this
 ·intro j y hy
  by_cases e : j = i
  ·simp only [if_pos e] at hy
   have h1 := h.below.size
   have h2 := hb.size
   rcases hf y hy with h3 | ⟨k, _, h3⟩
   ·omega
   ·have := h.fresh k y h3
    omega
  ·simp only [if_neg e] at hy
   by_cases e3 : j ∈ T i
   ·simp [e3] at hy
   ·simp only [if_neg e3] at hy
    have := h.fresh j y hy
    have := hb.size
    omega
 ·intro j
  by_cases e : j = i
  ·simp only [if_pos e]; exact hn
  ·simp only [if_neg e]
   by_cases e3 : j ∈ T i
   ·simp [e3]
   ·simp only [if_neg e3]; exact h.nodup j
 ·have key : ∀ k, k ≠ i → ∀ y ∈ d, y ∈ (if k ∈ T i then [] else D k) → False := by
   intro k hk y hy hyk
   by_cases e3 : k ∈ T i
   ·simp [e3] at hyk
   ·simp only [if_neg e3] at hyk
    rcases hf y hy with h3 | ⟨j, hj, h3⟩
    ·have := h.fresh k y hyk
     omega
    ·exact h.disj j k (fun e => e3 (e ▸ hj)) y h3 hyk
  intro j k hjk y hy hk
  by_cases e : j = i
  ·have e2 : k ≠ i := by omega
   simp only [if_pos e] at hy
   simp only [if_neg e2] at hk
   exact key k e2 y hy hk
  ·simp only [if_neg e] at hy
   by_cases e2 : k = i
   ·simp only [if_pos e2] at hk
    exact key j e y hk hy
   ·simp only [if_neg e2] at hk
    by_cases e3 : j ∈ T i
    ·simp [e3] at hy
    ·by_cases e4 : k ∈ T i
     ·simp [e4] at hk
     ·simp only [if_neg e3] at hy
      simp only [if_neg e4] at hk
      exact h.disj j k hjk y hy hk
/-- The region: each operation but the last leaves a value and blocks of its own (T i: whose blocks it takes over); the last one (all others come ahead of it) ends it. -/
theorem region_inv {id n : Nat} {a0 : Act} {w0 W : World} (dst : Nat → Nat) (F : Nat → Value → List Nat → World → Prop) (T : Nat → List Nat) (hm : P.follows .mixedOrders = true) (hsz : ops.size = n + 1) (hW : Below W.heap.size W w0.drew)
  (hdst : ∀ i, i < n → ∃ o, ops[i]? = some o ∧ o.dst = some (dst i) ∧ o.guard = none) (hlo : ∃ o, ops[n]? = some o ∧ o.guard = none ∧ ∀ j, j < n → ∃ e ∈ o.after, Region.binds .any e = true ∧ e.on = j)
  (hac : ∀ i o, ops[i]? = some o → ∀ e ∈ o.after, Region.binds .any e = true → e.on < i)
  (hinj : ∀ i j, i < n → j < n → dst j = dst i → j = i) (hrg : ∀ i, i < n → dst i < a0.tmps.size) (hF : ∀ i v d w w', F i v d w → Below w.heap.size w w' → F i v d w')
  (hT : ∀ i k j, j ∈ T i → j ∈ T k → i = k) (hTn : ∀ i j, j ∈ T i → i < n)
  (step : ∀ i, i < n → ∀ o, ops[i]? = some o → ∀ (a : Act) (w : World) (D : Nat → List Nat), Below W.heap.size W w → a.tmps.size = a0.tmps.size ∧ a.defers = a0.defers → (∀ t, (∀ i, i < n → dst i ≠ t) → a.tmps.getD t undef = a0.tmps.getD t undef) →
   (∀ e ∈ o.after, Region.binds .any e = true → (e.on ∈ T i ∨ ∀ k, e.on ∉ T k) → F e.on (a.tmps.getD (dst e.on) undef) (D e.on) w) → (∀ j, (D j).Nodup ∧ (∀ y ∈ D j, W.heap.size ≤ y ∧ y < w.heap.size) ∧ ∀ k, j ≠ k → ∀ y ∈ D j, y ∉ D k) → ∀ K : Act → World → Prop,
   (∀ v d w', Below w.heap.size w w' → F i v d w' → (∀ y ∈ d, w.heap.size ≤ y ∧ y < w'.heap.size ∨ ∃ j ∈ T i, y ∈ D j) → d.Nodup → K (a.put (some (dst i)) v) w') → Oper.wp P o a w K Q)
  (last : ∀ o, ops[n]? = some o → ∀ a w D L, (∀ i, i < n → L[i]? = some true) → Inv W a0 n dst F T L D a w → Oper.wp P o a w (fun a' w' => Q .normal a' w') Q) :
  (Code.region id ops true).wp P Q a0 w0 := by
 refine wp_region_any hm ?_
 refine any_inv (fun L a w => (L[n]? = some true → Q .normal a w ∧ ∀ i, i < n → L[i]? = some true) ∧ (L[n]? = some false → ∃ D, Inv W a0 n dst F T L D a w)) ?_ ?_ _ _ _ _ ?_ (by simp) ?_
 ·rintro L a w i hL hi ⟨hJ1, hJ2⟩
  obtain ⟨h1, h2⟩ := ready_false hL hi
  have hLi : L[i]? = some false := by rw [Array.getElem?_eq_getElem h1, h2]
  by_cases e : i = n
  ·subst e
   obtain ⟨D, hI⟩ := hJ2 hLi
   obtain ⟨o, ho, hg, hall⟩ := hlo
   have hl := last o ho a w D L (fun j hj => by
    obtain ⟨e, he, hb, rfl⟩ := hall j hj
    exact ready_dep hi ho e he hb) hI
   unfold wpOp
   rw [ho]
   simp only [Region.wanted, hg, if_true]
   refine .inl (Oper.wp_mono (fun a' w' hq => ⟨fun _ => ⟨hq, fun j hj => ?_⟩, fun h => ?_⟩) hl)
   ·rw [Array.getElem?_setIfInBounds_ne (by omega)]
    obtain ⟨e, he, hb, rfl⟩ := hall j hj
    exact ready_dep hi ho e he hb
   rw [Array.getElem?_setIfInBounds_self_of_lt h1] at h
   simp at h
  ·have hin : i < n := by omega
   have hLn : L[n]? = some false := by
    cases hc : L[n]? with
    | none => rw [Array.getElem?_eq_none_iff] at hc; omega
    | some x =>
     cases x with
     | false => rfl
     | true =>
      have h3 := (hJ1 hc).2 i hin
      rw [hLi] at h3
      simp at h3
   obtain ⟨D, hI⟩ := hJ2 hLn
   obtain ⟨o, ho, hd, hg⟩ := hdst i hin
   unfold wpOp
   rw [ho]
   simp only [Region.wanted, hg, if_true]
   refine .inl (step i hin o ho a w D hI.below ⟨hI.size, hI.defers⟩ hI.old (fun e he hb hu => hI.fact e.on (by have := hac i o ho e he hb; omega) (ready_dep hi ho e he hb) (fun k hk => by
    rcases hu with hu | hu
    ·rw [← hT i k e.on hu hk]; exact hLi
    ·exact absurd hk (hu k))) (fun j => ⟨hI.nodup j, hI.fresh j, hI.disj j⟩) _ (fun v d w' hb hv hf hn => ?_))
   obtain ⟨D', hI'⟩ := hI.step hin h1 (fun j hj => hinj i j hin hj) (hrg i hin) hF hb hv hf hn
   refine ⟨fun h => ?_, fun _ => ⟨D', hI'⟩⟩
   rw [Array.getElem?_setIfInBounds_ne (by omega), hLn] at h
   simp at h
 ·rintro L a w hL hr ⟨hJ1, hJ2⟩
  refine (hJ1 ?_).1
  have hall : ∀ k i, i ≤ k → i < ops.size → L[i]? = some true := by
   intro k
   induction k with
   | zero =>
    intro i hi hs
    have hiL : i < L.size := by omega
    cases hx : L[i] with
    | true => rw [Array.getElem?_eq_getElem hiL, hx]
    | false =>
     have := ready_mem (md := .any) hs (by rw [Array.getElem?_eq_getElem hiL, hx]) (Array.getElem?_eq_getElem hs) (fun e he hb => by have := hac i _ (Array.getElem?_eq_getElem hs) e he hb; omega)
     rw [hr] at this
     simp at this
   | succ k ih =>
    intro i hi hs
    have hiL : i < L.size := by omega
    cases hx : L[i] with
    | true => rw [Array.getElem?_eq_getElem hiL, hx]
    | false =>
     have := ready_mem (md := .any) hs (by rw [Array.getElem?_eq_getElem hiL, hx]) (Array.getElem?_eq_getElem hs) (fun e he hb => by
      have h9 := hac i _ (Array.getElem?_eq_getElem hs) e he hb
      exact ih e.on (by omega) (by omega))
     rw [hr] at this
     simp at this
  exact hall n n (Nat.le_refl _) (by omega)
 ·unfold open_
  refine Nat.le_trans List.count_le_length ?_
  simp
 ·refine ⟨fun h => ?_, fun _ => ⟨fun _ => [], ⟨hW, rfl, rfl, fun _ _ => rfl, fun i _ h => ?_, by simp, by simp, by simp⟩⟩⟩
  ·simp [hsz] at h
  ·rw [Array.getElem?_replicate] at h
   split at h <;> simp at h
theorem un_if {o : Oper} {a : Act} {w : World} {K : Act → World → Prop} {E : Prop} (ops' : Array Oper) (hg : o.guard = none) (h : if Region.wanted o (yielded ops' a.tmps) = true then Oper.wp P o a w K Q else E) : Oper.wp P o a w K Q := by
 rw [if_pos (by simp [Region.wanted, hg])] at h
 exact h
/-- All that region_inv asks of the operations themselves. -/
def nobody (tl : List (List Nat)) (j : Nat) : Bool := tl.all (fun l => !l.contains j)
def chk (ops : Array Oper) (n : Nat) (dl : List Nat) (tl : List (List Nat)) (sz : Nat) : Bool :=
 decide (ops.size = n + 1) && decide (tl.length ≤ n ∧ dl.length = n) &&
 (List.range n).all (fun i => (match ops[i]? with | some o => o.dst == some (dl.getD i 0) && o.guard.isNone | none => false) && decide (dl.getD i 0 < sz) && (List.range n).all (fun j => dl.getD j 0 != dl.getD i 0 || j == i)) &&
 (match ops[n]? with | some o => o.guard.isNone && (List.range n).all (fun j => o.after.any (fun e => Region.binds .any e && e.on == j)) | none => false) &&
 (List.range (n + 1)).all (fun i => match ops[i]? with | some o => o.after.all (fun e => !Region.binds .any e || decide (e.on < i)) | none => true) &&
 (List.range n).all (fun i => (List.range n).all (fun k => (tl.getD i []).all (fun j => !(tl.getD k []).contains j || i == k)))
def dep (ops : Array Oper) (tl : List (List Nat)) (i j : Nat) : Bool :=
 (match ops[i]? with | some o => o.after.any (fun e => Region.binds .any e && e.on == j) | none => false) && ((tl.getD i []).contains j || nobody tl j)
def lay (f : Nat → Value) (dl : List Nat) (a : Act) : Act := dl.foldl (fun A t => A.put (some t) (f t)) a
theorem lay_size (f : Nat → Value) : ∀ (dl : List Nat) (a : Act), (lay f dl a).tmps.size = a.tmps.size ∧ (lay f dl a).defers = a.defers
 | [], a => ⟨rfl, rfl⟩
 | t :: dl, a => by
  have := lay_size f dl (a.put (some t) (f t))
  refine ⟨this.1.trans ?_, this.2⟩
  simp [Act.put]
theorem lay_get (f : Nat → Value) (t : Nat) : ∀ (dl : List Nat) (a : Act), t < a.tmps.size → (lay f dl a).tmps.getD t undef = if dl.contains t then f t else a.tmps.getD t undef
 | [], a, _ => by simp [lay]
 | x :: dl, a, h => by
  have h1 := lay_get f t dl (a.put (some x) (f x)) (by simpa [Act.put] using h)
  show (lay f dl (a.put (some x) (f x))).tmps.getD t undef = _
  rw [h1]
  by_cases e : t = x
  ·subst e
   rw [put_at h]
   simp
  ·rw [put_other e]
   have : (x :: dl).contains t = dl.contains t := by simp [e]
   rw [this]
theorem getD_at (T : Array Value) (i : Nat) (h : i < T.size) : T.getD i undef = T[i] := by simp [Array.getD, h]
theorem lay_eq {a a0 : Act} {dl : List Nat} (hs : a.tmps.size = a0.tmps.size) (hd : a.defers = a0.defers) (ho : ∀ t, dl.contains t = false → a.tmps.getD t undef = a0.tmps.getD t undef) : a = lay (fun t => a.tmps.getD t undef) dl a0 := by
 have h1 := lay_size (fun t => a.tmps.getD t undef) dl a0
 have h2 : a.tmps = (lay (fun t => a.tmps.getD t undef) dl a0).tmps := by
  apply Array.ext
  ·rw [h1.1, hs]
  ·intro i h3 h4
   have h5 := lay_get (fun t => a.tmps.getD t undef) i dl a0 (by omega)
   rw [← getD_at _ i h3, ← getD_at _ i h4, h5]
   by_cases hc : dl.contains i = true
   ·rw [if_pos hc]
   ·rw [if_neg hc]
    exact ho i (by simpa using hc)
 cases a with
 | mk t d =>
  cases hl : lay (fun t' => t.getD t' undef) dl a0 with
  | mk t2 d2 =>
   simp only at h2 hd
   rw [hl] at h2 h1
   simp only at h1
   rw [h2, hd, h1.2]
theorem region_go {id n : Nat} {a0 : Act} {w0 W : World} (dl : List Nat) (tl : List (List Nat)) (F : Nat → Value → List Nat → World → Prop) (hm : P.follows .mixedOrders = true) (hc : chk ops n dl tl a0.tmps.size = true) (hW : Below W.heap.size W w0.drew)
  (hF : ∀ i v d w w', F i v d w → Below w.heap.size w w' → F i v d w')
  (step : ∀ i, i < n → ∀ o, ops[i]? = some o → ∀ (f : Nat → Value) (A : Act) (w : World) (D : Nat → List Nat), A = lay f dl a0 → Below W.heap.size W w →
   (∀ j, dep ops tl i j = true → F j (f (dl.getD j 0)) (D j) w ∧ (D j).Nodup ∧ (∀ y ∈ D j, W.heap.size ≤ y ∧ y < w.heap.size) ∧ ∀ k, j ≠ k → ∀ y ∈ D j, y ∉ D k) → ∀ K : Act → World → Prop,
   (∀ v d w', Below w.heap.size w w' → F i v d w' → (∀ y ∈ d, w.heap.size ≤ y ∧ y < w'.heap.size ∨ ∃ j ∈ tl.getD i [], y ∈ D j) → d.Nodup → K (A.put (some (dl.getD i 0)) v) w') → Oper.wp P o A w K Q)
  (last : ∀ o, ops[n]? = some o → ∀ (f : Nat → Value) (A : Act) (w : World) (D : Nat → List Nat), A = lay f dl a0 → Below W.heap.size W w →
   (∀ j, j < n → nobody tl j = true → F j (f (dl.getD j 0)) (D j) w) → (∀ j, (D j).Nodup ∧ (∀ y ∈ D j, W.heap.size ≤ y ∧ y < w.heap.size) ∧ ∀ k, j ≠ k → ∀ y ∈ D j, y ∉ D k) → Oper.wp P o A w (fun a' w' => Q .normal a' w') Q) :
  (Code.region id ops true).wp P Q a0 w0 := by
 unfold chk at hc
 simp only [Bool.and_eq_true, decide_eq_true_eq, List.all_eq_true, List.mem_range] at hc
 obtain ⟨⟨⟨⟨⟨h1, h2⟩, h3⟩, h4⟩, h5⟩, h6⟩ := hc
 have hmem : ∀ i, i < n → dl.contains (dl.getD i 0) = true := fun i hi => by
  rw [List.contains_iff_mem, List.getD_eq_getElem?_getD, List.getElem?_eq_getElem (show i < dl.length by omega)]
  exact List.getElem_mem _
 have hlt : ∀ i j, j ∈ tl.getD i [] → i < n := fun i j h7 => by
  by_cases h8 : i < tl.length
  ·omega
  ·rw [List.getD_eq_getElem?_getD, List.getElem?_eq_none (by omega)] at h7
   simp at h7
 have hno : ∀ j, nobody tl j = true → ∀ k, j ∉ tl.getD k [] := fun j hj k hk => by
  unfold nobody at hj
  rw [List.all_eq_true] at hj
  by_cases hkl : k < tl.length
  ·have := hj (tl.getD k []) (by rw [List.getD_eq_getElem?_getD, List.getElem?_eq_getElem hkl]; exact List.getElem_mem hkl)
   simp at this
   exact this (by simpa using hk)
  ·rw [List.getD_eq_getElem?_getD, List.getElem?_eq_none (by omega)] at hk
   simp at hk
 refine region_inv (fun i => dl.getD i 0) F (fun i => tl.getD i []) hm h1 hW (fun i hi => ?_) ?_ (fun i o ho e he hb => ?_) (fun i j hi hj e => ?_) (fun i hi => (h3 i hi).1.2) hF (fun i k j h7 h8 => ?_) (fun i j h7 => ?_) (fun i hi o ho a w D hB hSz hO hD hN K hK => ?_) (fun o ho a w D L hL hI => ?_)
 ·have h7 := (h3 i hi).1.1
  cases ho : ops[i]? with
  | none => rw [ho] at h7; simp at h7
  | some o =>
   rw [ho] at h7
   simp at h7
   exact ⟨o, rfl, h7.1, h7.2⟩
 ·cases ho : ops[n]? with
  | none => rw [ho] at h4; simp at h4
  | some o =>
   rw [ho] at h4
   simp only [Bool.and_eq_true, List.all_eq_true, List.mem_range, Array.any_eq_true', beq_iff_eq] at h4
   refine ⟨o, rfl, by simpa using h4.1, fun j hj => ?_⟩
   obtain ⟨e, he, hb, hj'⟩ := h4.2 j hj
   exact ⟨e, he, hb, hj'⟩
 ·have hin : i < n + 1 := by
   have := (Array.getElem?_eq_some_iff.1 ho).1
   omega
  have h7 := h5 i hin
  rw [ho] at h7
  simp only [Array.all_eq_true', Bool.or_eq_true, Bool.not_eq_true', decide_eq_true_eq] at h7
  rcases h7 e he with h8 | h8
  ·rw [hb] at h8; simp at h8
  ·exact h8
 ·have h7 := (h3 i hi).2 j hj
  simp only [Bool.or_eq_true, bne_iff_ne, beq_iff_eq] at h7
  rcases h7 with h7 | h7
  ·exact absurd e h7
  ·exact h7
 ·have h9 := h6 i (hlt i j h7) k (hlt k j h8) j h7
  simp only [Bool.or_eq_true, beq_iff_eq, Bool.not_eq_true'] at h9
  rcases h9 with h9 | h9
  ·have : (tl.getD k []).contains j = true := by rw [List.contains_iff_mem]; exact h8
   rw [h9] at this
   simp at this
  ·exact h9
 ·exact hlt i j h7
 ·have hO' : ∀ t, dl.contains t = false → a.tmps.getD t undef = a0.tmps.getD t undef := fun t ht => hO t (fun j hj e => by
   have := hmem j hj
   rw [e, ht] at this
   simp at this)
  have hl := lay_eq hSz.1 hSz.2 hO'
  refine step i hi o ho (fun t => a.tmps.getD t undef) a w D hl hB (fun j hj => ?_) K hK
  unfold dep at hj
  rw [ho] at hj
  simp only [Bool.and_eq_true, Array.any_eq_true', beq_iff_eq, Bool.or_eq_true] at hj
  obtain ⟨⟨e, he, hb, rfl⟩, h7⟩ := hj
  refine ⟨hD e he hb ?_, hN e.on⟩
  rcases h7 with h7 | h7
  ·exact .inl (by simpa using h7)
  ·exact .inr (hno e.on h7)
 ·have hl := lay_eq (dl := dl) hI.size hI.defers (fun t ht => hI.old t (fun j hj e => by
   have := hmem j hj
   rw [e, ht] at this
   simp at this))
  exact last o ho (fun t => a.tmps.getD t undef) a w D hl hI.below (fun j hj hu => hI.fact j hj (hL j hj) (fun k hk => absurd hk (hno j hu k))) (fun j => ⟨hI.nodup j, hI.fresh j, hI.disj j⟩)
end
end Go.Proofs.YtoeolfegmklbaaaGreat.InvR
