/- A map from numbers to processes behind pointers: how it lies, what is looked up in it, what ranging over it meets. Condition: none. -/
import Derived.Test.YtighnfeifkgajaaGreatImE
import Derived.Maps.RangeWalk
import Derived.Maps.OwnSet
namespace Go.Proofs.YtighnfeifkgajaaGreat.MpA
open Go.RowKit Go.Deep Num InsC InsO ProgC IntC RowC PrgL UnC PlcM BootA SpC SpD ImA ImB ImC ImD ImE CpuI CpuS Bel SpA
open Go.Maps (Keyed int_keyed keyOf_int_mk)
set_option maxRecDepth 100000
set_option linter.unusedVariables false
set_option linter.unusedSimpArgs false

/-- What a pointer reads as: its block's number. -/
def ptrElem (v : Value) : Option (DataW Unit × List MemPlace) := match v with
  | .pointer (some ⟨b, 0, none⟩) => some (.lit (.int .i64 (b : Int)), [])
  | _ => none
theorem ptrElem_mk (b : Nat) : ptrElem (.pointer (some ⟨b, 0, none⟩)) = some (.lit (.int .i64 (b : Int)), []) := rfl
theorem ptrElem_inv {v : Value} {y : DataW Unit × List MemPlace} (h : ptrElem v = some y) : ∃ b : Nat, v = .pointer (some ⟨b, 0, none⟩) ∧ y = (.lit (.int .i64 (b : Int)), []) := by
  unfold ptrElem at h
  split at h
  · exact ⟨_, rfl, (Option.some.inj h).symm⟩
  · cases h
theorem law : Keyed Tryz.prog 3 := int_keyed Tryz.underlying3
theorem zeroP (w : World) : (zeroValue 123).run Tryz.prog w = .ok (.pointer none) w := by kernel_rfl
abbrev key (x : Int) : Lit := .int .i64 x
theorem key_inj {x y : Int} (h : key x = key y) : x = y := by cases h; rfl
theorem key_is (x : Int) : WideAt.IsKeyLit (key x) := trivial

section
variable {α : Type} (f : α → Int)
theorem plcN_append (n : Int) : ∀ (l : List α) (x : α), plcN f n (l ++ [x]) = match plcN f n l with
    | some k => some k
    | none => if f x = n then some l.length else none
  | [], x => by simp [plcN]
  | y :: l, x => by
    rw [List.cons_append, plcN, plcN, plcN_append n l x]
    by_cases h : f y = n
    · simp [h]
    · simp only [h, if_false]
      cases plcN f n l with
      | some k => rfl
      | none => by_cases h2 : f x = n <;> simp [h2]
theorem plcN_of_uniq (l : List α) (hn : (l.map f).Nodup) (k : Nat) (x : α) (h : l[k]? = some x) : plcN f (f x) l = some k := by
  refine plcN_hit f (f x) l k x h rfl ?_
  rw [List.all_eq_true]
  intro y hy
  obtain ⟨i, hi⟩ := List.getElem?_of_mem hy
  have hil : i < k := by
    have := (List.getElem?_eq_some_iff.1 hi).1
    simp at this
    omega
  rw [List.getElem?_take_of_lt hil] at hi
  simp only [decide_eq_true_eq, ne_eq]
  intro e
  have h1 : (l.map f)[i]? = some (f x) := by rw [List.getElem?_map, hi]; simp [e]
  have h2 : (l.map f)[k]? = some (f x) := by rw [List.getElem?_map, h]; rfl
  have := (List.getElem?_inj (List.getElem?_eq_some_iff.1 h1).1 hn).1 (h1.trans h2.symm)
  omega
end

/-- Block M is a map of the processes l by their numbers; process i lies in block gs[i]. -/
structure MapR (w : World) (M : Nat) (l : List Pr) (gs : List Nat) (D : DataW Unit) : Prop where
  own : w.ownsMap Tryz.prog 3 ptrElem M l.length D
  len : gs.length = l.length
  has : ∀ x, Maps.has D (key x) = (plcN Pr.pid x l).isSome
  at_ : ∀ x k g, plcN Pr.pid x l = some k → gs[k]? = some g → ∀ z, D.atKey (key x) z = .lit (.int .i64 (g : Int))
  ent : ∀ (i : Nat) (p : Pr) (g : Nat), l[i]? = some p → gs[i]? = some g → g ≠ M ∧ ∃ v1 v2 v3, PAt w g p v1 v2 v3
theorem MapR.below {w w' : World} {M : Nat} {l : List Pr} {gs : List Nat} {D : DataW Unit} (h : MapR w M l gs D) (hb : Below w.heap.size w w') : MapR w' M l gs D := by
  refine ⟨?_, h.len, h.has, h.at_, fun i p g hp hg => ?_⟩
  · have hlt := h.own.lt
    obtain ⟨es, clock, h1, h2⟩ := h.own
    exact ⟨es, clock, (hb.block M hlt).trans h1, h2⟩
  · obtain ⟨h0, v1, v2, v3, h1⟩ := h.ent i p g hp hg
    exact ⟨h0, v1, v2, v3, h1.below hb⟩
theorem look_yes {w : World} {M : Nat} {l : List Pr} {gs : List Nat} {D : DataW Unit} (h : MapR w M l gs D) {x : Int} {k g : Nat} (hx : (Lit.int .i64 x).wf = true) (hk : plcN Pr.pid x l = some k) (hg : gs[k]? = some g) :
    (Instr.lookup 121 (.map (some M)) (.int .i64 x) true).run Tryz.prog w = .ok (.tuple #[.pointer (some ⟨g, 0, none⟩), .bool true]) w := by
  have hh := h.has x
  have ha := h.at_ x k g hk hg
  rw [hk] at hh
  obtain ⟨es, clock, hb, F, _, rfl⟩ := h.own
  rcases Maps.fit_look true law Tryz.underlying121 (zeroP w) hb F (keyOf_int_mk Tryz.underlying3 hx) with ⟨_, _, hat⟩ | ⟨e0, y, _, _, hrun, hR, hat, _⟩
  · have := Maps.has_false_of_atKey hat
    rw [this] at hh
    cases hh
  · obtain ⟨b, hv, rfl⟩ := ptrElem_inv hR
    rw [hrun, hv]
    have e := (hat .nil).symm.trans (ha .nil)
    simp at e
    simp [e]
theorem look_no {w : World} {M : Nat} {l : List Pr} {gs : List Nat} {D : DataW Unit} (h : MapR w M l gs D) {x : Int} (hx : (Lit.int .i64 x).wf = true) (hk : plcN Pr.pid x l = none) :
    (Instr.lookup 121 (.map (some M)) (.int .i64 x) true).run Tryz.prog w = .ok (.tuple #[.pointer none, .bool false]) w := by
  have hh := h.has x
  rw [hk] at hh
  obtain ⟨es, clock, hb, F, _, rfl⟩ := h.own
  rcases Maps.fit_look true law Tryz.underlying121 (zeroP w) hb F (keyOf_int_mk Tryz.underlying3 hx) with ⟨hrun, _, _⟩ | ⟨e0, y, _, _, _, _, hat, _⟩
  · rw [hrun]
    rfl
  · have := Maps.has_true_of_atKey hat
    rw [this] at hh
    cases hh
theorem map_start (w : World) : MapR (w.alloc (.map #[] 0)) w.heap.size [] [] (.map []) :=
  ⟨World.ownsMap_made _ _ _ _, rfl, fun x => rfl, fun x k g h => by simp [plcN] at h, fun i p g h => by simp at h⟩
/-- One more process. -/
theorem map_step {w w1 w2 : World} {M G : Nat} {l : List Pr} {gs : List Nat} {D : DataW Unit} {p : Pr} {v1 v2 v3 : Value} (h : MapR w M l gs D) (hGM : G ≠ M) (hb : Below w.heap.size w w1) (hp : PAt w1 G p v1 v2 v3) (hn : plcN Pr.pid p.pid l = none)
    (hown : w2.ownsMap Tryz.prog 3 ptrElem M (l.length + 1) (D.put (key p.pid) (.lit (.int .i64 (G : Int))))) (hg : w1.grownBy w2 (some M)) :
    MapR w2 M (l ++ [p]) (gs ++ [G]) (D.put (key p.pid) (.lit (.int .i64 (G : Int)))) := by
  have hlen := h.len
  have hmap : Maps.IsMap D := by
    obtain ⟨es, clock, _, _, _, rfl⟩ := h.own
    exact ⟨_, rfl⟩
  have hcell : ∀ G j x, G ≠ M → w1.cell? ⟨G, j, none⟩ = some x → w2.cell? ⟨G, j, none⟩ = some x := by
    intro G j x hG hx
    have hlt := World.block_lt_of_cell? w1 _ hx
    unfold World.cell? at hx ⊢
    simp only at hx hlt ⊢
    rw [hg.block G hlt (by simpa using hG)]
    exact hx
  have hmw : ∃ es clock, w1.heap[M]? = some (.map es clock) := by
    have hlt := h.own.lt
    obtain ⟨es, clock, h1, h2⟩ := h.own
    exact ⟨es, clock, (hb.block M hlt).trans h1⟩
  have hnm : ∀ g j x, w1.cell? ⟨g, j, none⟩ = some x → g ≠ M := by
    rintro g j x hx rfl
    obtain ⟨es, clock, h1⟩ := hmw
    simp [World.cell?, h1] at hx
  have hM1 : ∀ v (q : List Int), Ints w1 v q → Ints w2 v q := by
    rintro v q (h0 | ⟨g, cap, e1, e2, e3⟩)
    · exact .inl h0
    · exact .inr ⟨g, cap, e1, Nat.lt_of_lt_of_le e2 hg.size, fun i n hi => hcell g i _ (hnm g i _ (e3 i n hi)) (e3 i n hi)⟩
  have hpat : ∀ G q u1 u2 u3, G ≠ M → PAt w1 G q u1 u2 u3 → PAt w2 G q u1 u2 u3 := fun G q u1 u2 u3 hG hq =>
    ⟨fun j x hx => hcell G j x hG (hq.cell j x hx), Nat.lt_of_lt_of_le hq.lt hg.size, hM1 _ _ hq.regs, hM1 _ _ hq.mem, hM1 _ _ hq.fds⟩
  refine ⟨by simpa using hown, by simp [hlen], fun x => ?_, fun x k g hk hkg z => ?_, fun i q g hq hgq => ?_⟩
  · rw [plcN_append]
    by_cases hx : p.pid = x
    · subst hx
      rw [hn, Maps.has_put_same hmap (key_is _)]
      simp
    · rw [Maps.has_put_other (fun e => hx (key_inj e).symm), h.has x]
      cases plcN Pr.pid x l <;> simp [hx]
  · rw [plcN_append] at hk
    by_cases hx : p.pid = x
    · subst hx
      rw [hn] at hk
      simp at hk
      subst hk
      rw [← hlen, List.getElem?_append_right (Nat.le_refl _)] at hkg
      simp at hkg
      subst hkg
      rw [Maps.atKey_put_same hmap (key_is _)]
    · rw [Maps.atKey_put_other (fun e => hx (key_inj e).symm)]
      cases hc : plcN Pr.pid x l with
      | some k' =>
        rw [hc] at hk
        simp at hk
        subst hk
        obtain ⟨y, hy, _⟩ := plcN_some Pr.pid x l k' hc
        have hkl := (List.getElem?_eq_some_iff.1 hy).1
        rw [List.getElem?_append_left (by omega)] at hkg
        exact h.at_ x k' g hc hkg z
      | none => rw [hc] at hk; simp [hx] at hk
  · by_cases hi : i < l.length
    · rw [List.getElem?_append_left hi] at hq
      rw [List.getElem?_append_left (by omega)] at hgq
      obtain ⟨h0, u1, u2, u3, hu⟩ := h.ent i q g hq hgq
      exact ⟨h0, u1, u2, u3, hpat _ q u1 u2 u3 h0 (hu.below hb)⟩
    · have hil := (List.getElem?_eq_some_iff.1 hq).1
      simp at hil
      obtain rfl : i = l.length := by omega
      rw [List.getElem?_append_right (Nat.le_refl _)] at hq
      rw [← hlen, List.getElem?_append_right (Nat.le_refl _)] at hgq
      simp at hq hgq
      subst hq hgq
      exact ⟨hGM, v1, v2, v3, hpat _ _ _ _ _ hGM hp⟩

/-! ### What is told of those that ranging has met -/
def sumOff (f : Pr → Nat) (left : Lit → Bool) (l : List Pr) : Nat := (l.map fun p => if left (key p.pid) then 0 else f p).sum
theorem sumOff_cons (f : Pr → Nat) (left : Lit → Bool) (p : Pr) (l : List Pr) : sumOff f left (p :: l) = (if left (key p.pid) then 0 else f p) + sumOff f left l := by simp [sumOff]
theorem same_key (x y : Int) : Lit.sameKey (key x) (key y) = decide (x = y) := by
  by_cases h : x = y
  · subst h; rw [WideAt.sameKey_self (key_is x)]; simp
  · rw [Maps.sameKey_ne (fun e => h (key_inj e))]; simp [h]
theorem sumOff_other (f : Pr → Nat) (left : Lit → Bool) (n : Int) : ∀ l : List Pr, (∀ p ∈ l, p.pid ≠ n) → sumOff f (fun z => left z && !z.sameKey (key n)) l = sumOff f left l
  | [], _ => rfl
  | p :: l, h => by
    have h1 : p.pid ≠ n := h p (by simp)
    rw [sumOff_cons, sumOff_cons, sumOff_other f left n l (fun q hq => h q (by simp [hq]))]
    rw [same_key, decide_eq_false h1]
    simp
theorem sumOff_step (f : Pr → Nat) (left : Lit → Bool) : ∀ (l : List Pr) (i : Nat) (p : Pr), (l.map Pr.pid).Nodup → l[i]? = some p → left (key p.pid) = true → sumOff f (fun z => left z && !z.sameKey (key p.pid)) l = sumOff f left l + f p
  | [], i, p, _, h, _ => by simp at h
  | q :: l, 0, p, hn, h, hl => by
    simp at h
    subst h
    rw [List.map_cons, List.nodup_cons] at hn
    rw [sumOff_cons, sumOff_cons, sumOff_other f left q.pid l (fun r hr e => hn.1 (by rw [← e]; exact List.mem_map_of_mem hr)), same_key]
    simp [hl]
    omega
  | q :: l, i + 1, p, hn, h, hl => by
    simp at h
    rw [List.map_cons, List.nodup_cons] at hn
    have hne : q.pid ≠ p.pid := fun e => hn.1 (by rw [e]; exact List.mem_map_of_mem (List.mem_of_getElem? h))
    rw [sumOff_cons, sumOff_cons, sumOff_step f left l i p hn.2 h hl, same_key, decide_eq_false hne]
    simp
    omega
theorem sumOff_start (f : Pr → Nat) (left : Lit → Bool) : ∀ l : List Pr, (∀ p ∈ l, left (key p.pid) = true) → sumOff f left l = 0
  | [], _ => rfl
  | p :: l, h => by
    rw [sumOff_cons, sumOff_start f left l (fun q hq => h q (by simp [hq])), h p (by simp)]
    simp
theorem sumOff_end (f : Pr → Nat) (left : Lit → Bool) (h : ∀ z, left z = false) : ∀ l : List Pr, sumOff f left l = sumF f l
  | [] => rfl
  | p :: l => by
    rw [sumOff_cons, sumOff_end f left h l, h]
    simp [sumF]
theorem sumOff_le (f : Pr → Nat) (left : Lit → Bool) : ∀ l : List Pr, sumOff f left l ≤ sumF f l
  | [] => Nat.le_refl _
  | p :: l => by
    have := sumOff_le f left l
    rw [sumOff_cons]
    have h2 : sumF f (p :: l) = f p + sumF f l := by simp [sumF]
    rw [h2]
    split <;> omega

end Go.Proofs.YtighnfeifkgajaaGreat.MpA
