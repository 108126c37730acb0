/- A map from numbers to processes behind pointers: how it lies, what is looked up in it, what ranging over it meets. What impl's procsByPid and parentOk answer. Condition: the processes' numbers are unlike. Condition: none. -/
import Derived.Test.YtoeolfegmklbaaaGreatImE
import Derived.Maps.RangeWalk
import Derived.Maps.OwnSet
import Derived.Deep.RegionWith
import Derived.BigRegion
namespace Go.Proofs.YtoeolfegmklbaaaGreat.MpA
open Go.RowKit Go.Deep Num InsC InsO ProgC IntC RowC PrgL UnC PlcM BootA SpC SpD ImA ImB ImC ImD ImE CpuI CpuS Bel SpA
open Go.Maps (Keyed int_keyed keyOf_int_mk)
set_option maxRecDepth 100000
set_option linter.unusedVariables false
set_option linter.unusedSimpArgs false

/-- What a pointer reads as: its block's number. -/
def ptrElem (v : Value) : Option (DataW Unit × List MemPlace) := match v with
 | .pointer (some ⟨b, 0, none⟩) => some (.lit (.int .i64 (b : Int)), [])
 | _ => none
theorem ptrElem_mk (b : Nat) : ptrElem (.pointer (some ⟨b, 0, none⟩)) = some (.lit (.int .i64 (b : Int)), []) := rfl
theorem ptrElem_inv {v : Value} {y : DataW Unit × List MemPlace} (h : ptrElem v = some y) : ∃ b : Nat, v = .pointer (some ⟨b, 0, none⟩) ∧ y = (.lit (.int .i64 (b : Int)), []) := by
 unfold ptrElem at h
 split at h
 ·exact ⟨_, rfl, (Option.some.inj h).symm⟩
 ·cases h
theorem law : Keyed Tryz.prog 3 := int_keyed Tryz.underlying3
theorem zeroP (w : World) : (zeroValue 283).run Tryz.prog w = .ok (.pointer none) w := by kernel_rfl
abbrev key (x : Int) : Lit := .int .i64 x
theorem key_inj {x y : Int} (h : key x = key y) : x = y := by cases h; rfl
theorem key_is (x : Int) : WideAt.IsKeyLit (key x) := trivial

section
variable {α : Type} (f : α → Int)
theorem plcN_append (n : Int) : ∀ (l : List α) (x : α), plcN f n (l ++ [x]) = match plcN f n l with
  | some k => some k
  | none => if f x = n then some l.length else none
 | [], x => by simp [plcN]
 | y :: l, x => by
  rw [List.cons_append, plcN, plcN, plcN_append n l x]
  by_cases h : f y = n
  ·simp [h]
  ·simp only [h, if_false]
   cases plcN f n l with
   | some k => rfl
   | none => by_cases h2 : f x = n <;> simp [h2]
theorem plcN_of_uniq (l : List α) (hn : (l.map f).Nodup) (k : Nat) (x : α) (h : l[k]? = some x) : plcN f (f x) l = some k := by
 refine plcN_hit f (f x) l k x h rfl ?_
 rw [List.all_eq_true]
 intro y hy
 obtain ⟨i, hi⟩ := List.getElem?_of_mem hy
 have hil : i < k := by
  have := (List.getElem?_eq_some_iff.1 hi).1
  simp at this
  omega
 rw [List.getElem?_take_of_lt hil] at hi
 simp only [decide_eq_true_eq, ne_eq]
 intro e
 have h1 : (l.map f)[i]? = some (f x) := by rw [List.getElem?_map, hi]; simp [e]
 have h2 : (l.map f)[k]? = some (f x) := by rw [List.getElem?_map, h]; rfl
 have := (List.getElem?_inj (List.getElem?_eq_some_iff.1 h1).1 hn).1 (h1.trans h2.symm)
 omega
end

/-- Block M is a map of the processes l by their numbers; process i lies in block gs[i]. -/
structure MapR (w : World) (M : Nat) (l : List Pr) (gs : List Nat) (D : DataW Unit) : Prop where
 own : w.ownsMap Tryz.prog 3 ptrElem M l.length D
 len : gs.length = l.length
 has : ∀ x, Maps.has D (key x) = (plcN Pr.pid x l).isSome
 at_ : ∀ x k g, plcN Pr.pid x l = some k → gs[k]? = some g → ∀ z, D.atKey (key x) z = .lit (.int .i64 (g : Int))
 ent : ∀ (i : Nat) (p : Pr) (g : Nat), l[i]? = some p → gs[i]? = some g → g ≠ M ∧ ∃ v1 v2 v3, PAt w g p v1 v2 v3
theorem MapR.below {w w' : World} {M : Nat} {l : List Pr} {gs : List Nat} {D : DataW Unit} (h : MapR w M l gs D) (hb : Below w.heap.size w w') : MapR w' M l gs D := by
 refine ⟨?_, h.len, h.has, h.at_, fun i p g hp hg => ?_⟩
 ·have hlt := h.own.lt
  obtain ⟨es, clock, h1, h2⟩ := h.own
  exact ⟨es, clock, (hb.block M hlt).trans h1, h2⟩
 ·obtain ⟨h0, v1, v2, v3, h1⟩ := h.ent i p g hp hg
  exact ⟨h0, v1, v2, v3, h1.below hb⟩
theorem look_yes {w : World} {M : Nat} {l : List Pr} {gs : List Nat} {D : DataW Unit} (h : MapR w M l gs D) {x : Int} {k g : Nat} (hx : (Lit.int .i64 x).wf = true) (hk : plcN Pr.pid x l = some k) (hg : gs[k]? = some g) :
  (Instr.lookup 281 (.map (some M)) (.int .i64 x) true).run Tryz.prog w = .ok (.tuple #[.pointer (some ⟨g, 0, none⟩), .bool true]) w := by
 have hh := h.has x
 have ha := h.at_ x k g hk hg
 rw [hk] at hh
 obtain ⟨es, clock, hb, F, _, rfl⟩ := h.own
 rcases Maps.fit_look true law Tryz.underlying281 (zeroP w) hb F (keyOf_int_mk Tryz.underlying3 hx) with ⟨_, _, hat⟩ | ⟨e0, y, _, _, hrun, hR, hat, _⟩
 ·have := Maps.has_false_of_atKey hat
  rw [this] at hh
  cases hh
 ·obtain ⟨b, hv, rfl⟩ := ptrElem_inv hR
  rw [hrun, hv]
  have e := (hat .nil).symm.trans (ha .nil)
  simp at e
  simp [e]
theorem look_no {w : World} {M : Nat} {l : List Pr} {gs : List Nat} {D : DataW Unit} (h : MapR w M l gs D) {x : Int} (hx : (Lit.int .i64 x).wf = true) (hk : plcN Pr.pid x l = none) :
  (Instr.lookup 281 (.map (some M)) (.int .i64 x) true).run Tryz.prog w = .ok (.tuple #[.pointer none, .bool false]) w := by
 have hh := h.has x
 rw [hk] at hh
 obtain ⟨es, clock, hb, F, _, rfl⟩ := h.own
 rcases Maps.fit_look true law Tryz.underlying281 (zeroP w) hb F (keyOf_int_mk Tryz.underlying3 hx) with ⟨hrun, _, _⟩ | ⟨e0, y, _, _, _, _, hat, _⟩
 ·rw [hrun]
  rfl
 ·have := Maps.has_true_of_atKey hat
  rw [this] at hh
  cases hh
theorem map_start (w : World) : MapR (w.alloc (.map #[] 0)) w.heap.size [] [] (.map []) :=
 ⟨World.ownsMap_made _ _ _ _, rfl, fun x => rfl, fun x k g h => by simp [plcN] at h, fun i p g h => by simp at h⟩
/-- One more process. -/
theorem map_step {w w1 w2 : World} {M G : Nat} {l : List Pr} {gs : List Nat} {D : DataW Unit} {p : Pr} {v1 v2 v3 : Value} (h : MapR w M l gs D) (hGM : G ≠ M) (hb : Below w.heap.size w w1) (hp : PAt w1 G p v1 v2 v3) (hn : plcN Pr.pid p.pid l = none)
  (hown : w2.ownsMap Tryz.prog 3 ptrElem M (l.length + 1) (D.put (key p.pid) (.lit (.int .i64 (G : Int))))) (hg : w1.grownBy w2 (some M)) :
  MapR w2 M (l ++ [p]) (gs ++ [G]) (D.put (key p.pid) (.lit (.int .i64 (G : Int)))) := by
 have hlen := h.len
 have hmap : Maps.IsMap D := by
  obtain ⟨es, clock, _, _, _, rfl⟩ := h.own
  exact ⟨_, rfl⟩
 have hcell : ∀ G j x, G ≠ M → w1.cell? ⟨G, j, none⟩ = some x → w2.cell? ⟨G, j, none⟩ = some x := by
  intro G j x hG hx
  have hlt := World.block_lt_of_cell? w1 _ hx
  unfold World.cell? at hx ⊢
  simp only at hx hlt ⊢
  rw [hg.block G hlt (by simpa using hG)]
  exact hx
 have hmw : ∃ es clock, w1.heap[M]? = some (.map es clock) := by
  have hlt := h.own.lt
  obtain ⟨es, clock, h1, h2⟩ := h.own
  exact ⟨es, clock, (hb.block M hlt).trans h1⟩
 have hnm : ∀ g j x, w1.cell? ⟨g, j, none⟩ = some x → g ≠ M := by
  rintro g j x hx rfl
  obtain ⟨es, clock, h1⟩ := hmw
  simp [World.cell?, h1] at hx
 have hM1 : ∀ v (q : List Int), Ints w1 v q → Ints w2 v q := by
  rintro v q (h0 | ⟨g, cap, e1, e2, e3⟩)
  ·exact .inl h0
  ·exact .inr ⟨g, cap, e1, Nat.lt_of_lt_of_le e2 hg.size, fun i n hi => hcell g i _ (hnm g i _ (e3 i n hi)) (e3 i n hi)⟩
 have hpat : ∀ G q u1 u2 u3, G ≠ M → PAt w1 G q u1 u2 u3 → PAt w2 G q u1 u2 u3 := fun G q u1 u2 u3 hG hq =>
  ⟨fun j x hx => hcell G j x hG (hq.cell j x hx), Nat.lt_of_lt_of_le hq.lt hg.size, hM1 _ _ hq.regs, hM1 _ _ hq.mem, hM1 _ _ hq.fds⟩
 refine ⟨by simpa using hown, by simp [hlen], fun x => ?_, fun x k g hk hkg z => ?_, fun i q g hq hgq => ?_⟩
 ·rw [plcN_append]
  by_cases hx : p.pid = x
  ·subst hx
   rw [hn, Maps.has_put_same hmap (key_is _)]
   simp
  ·rw [Maps.has_put_other (fun e => hx (key_inj e).symm), h.has x]
   cases plcN Pr.pid x l <;> simp [hx]
 ·rw [plcN_append] at hk
  by_cases hx : p.pid = x
  ·subst hx
   rw [hn] at hk
   simp at hk
   subst hk
   rw [← hlen, List.getElem?_append_right (Nat.le_refl _)] at hkg
   simp at hkg
   subst hkg
   rw [Maps.atKey_put_same hmap (key_is _)]
  ·rw [Maps.atKey_put_other (fun e => hx (key_inj e).symm)]
   cases hc : plcN Pr.pid x l with
   | some k' =>
    rw [hc] at hk
    simp at hk
    subst hk
    obtain ⟨y, hy, _⟩ := plcN_some Pr.pid x l k' hc
    have hkl := (List.getElem?_eq_some_iff.1 hy).1
    rw [List.getElem?_append_left (by omega)] at hkg
    exact h.at_ x k' g hc hkg z
   | none => rw [hc] at hk; simp [hx] at hk
 ·by_cases hi : i < l.length
  ·rw [List.getElem?_append_left hi] at hq
   rw [List.getElem?_append_left (by omega)] at hgq
   obtain ⟨h0, u1, u2, u3, hu⟩ := h.ent i q g hq hgq
   exact ⟨h0, u1, u2, u3, hpat _ q u1 u2 u3 h0 (hu.below hb)⟩
  ·have hil := (List.getElem?_eq_some_iff.1 hq).1
   simp at hil
   obtain rfl : i = l.length := by omega
   rw [List.getElem?_append_right (Nat.le_refl _)] at hq
   rw [← hlen, List.getElem?_append_right (Nat.le_refl _)] at hgq
   simp at hq hgq
   subst hq hgq
   exact ⟨hGM, v1, v2, v3, hpat _ _ _ _ _ hGM hp⟩

/-! ### What is told of those that ranging has met -/
def sumOff (f : Pr → Nat) (left : Lit → Bool) (l : List Pr) : Nat := (l.map fun p => if left (key p.pid) then 0 else f p).sum
theorem sumOff_cons (f : Pr → Nat) (left : Lit → Bool) (p : Pr) (l : List Pr) : sumOff f left (p :: l) = (if left (key p.pid) then 0 else f p) + sumOff f left l := by simp [sumOff]
theorem same_key (x y : Int) : Lit.sameKey (key x) (key y) = decide (x = y) := by
 by_cases h : x = y
 ·subst h; rw [WideAt.sameKey_self (key_is x)]; simp
 ·rw [Maps.sameKey_ne (fun e => h (key_inj e))]; simp [h]
theorem sumOff_other (f : Pr → Nat) (left : Lit → Bool) (n : Int) : ∀ l : List Pr, (∀ p ∈ l, p.pid ≠ n) → sumOff f (fun z => left z && !z.sameKey (key n)) l = sumOff f left l
 | [], _ => rfl
 | p :: l, h => by
  have h1 : p.pid ≠ n := h p (by simp)
  rw [sumOff_cons, sumOff_cons, sumOff_other f left n l (fun q hq => h q (by simp [hq]))]
  rw [same_key, decide_eq_false h1]
  simp
theorem sumOff_step (f : Pr → Nat) (left : Lit → Bool) : ∀ (l : List Pr) (i : Nat) (p : Pr), (l.map Pr.pid).Nodup → l[i]? = some p → left (key p.pid) = true → sumOff f (fun z => left z && !z.sameKey (key p.pid)) l = sumOff f left l + f p
 | [], i, p, _, h, _ => by simp at h
 | q :: l, 0, p, hn, h, hl => by
  simp at h
  subst h
  rw [List.map_cons, List.nodup_cons] at hn
  rw [sumOff_cons, sumOff_cons, sumOff_other f left q.pid l (fun r hr e => hn.1 (by rw [← e]; exact List.mem_map_of_mem hr)), same_key]
  simp [hl]
  omega
 | q :: l, i + 1, p, hn, h, hl => by
  simp at h
  rw [List.map_cons, List.nodup_cons] at hn
  have hne : q.pid ≠ p.pid := fun e => hn.1 (by rw [e]; exact List.mem_map_of_mem (List.mem_of_getElem? h))
  rw [sumOff_cons, sumOff_cons, sumOff_step f left l i p hn.2 h hl, same_key, decide_eq_false hne]
  simp
  omega
theorem sumOff_start (f : Pr → Nat) (left : Lit → Bool) : ∀ l : List Pr, (∀ p ∈ l, left (key p.pid) = true) → sumOff f left l = 0
 | [], _ => rfl
 | p :: l, h => by
  rw [sumOff_cons, sumOff_start f left l (fun q hq => h q (by simp [hq])), h p (by simp)]
  simp
theorem sumOff_end (f : Pr → Nat) (left : Lit → Bool) (h : ∀ z, left z = false) : ∀ l : List Pr, sumOff f left l = sumF f l
 | [] => rfl
 | p :: l => by
  rw [sumOff_cons, sumOff_end f left h l, h]
  simp [sumF]
theorem sumOff_le (f : Pr → Nat) (left : Lit → Bool) : ∀ l : List Pr, sumOff f left l ≤ sumF f l
 | [] => Nat.le_refl _
 | p :: l => by
  have := sumOff_le f left l
  rw [sumOff_cons]
  have h2 : sumF f (p :: l) = f p + sumF f l := by simp [sumF]
  rw [h2]
  split <;> omega

end Go.Proofs.YtoeolfegmklbaaaGreat.MpA

namespace Go.Proofs.YtoeolfegmklbaaaGreat.ImF
open Go.RowKit Go.Deep Num InsC InsO ProgC IntC RowC PrgL UnC PlcM BootA SpC SpD ImA ImB ImC ImD ImE CpuI CpuS Bel SpA MpA
open Go.Maps (Keyed int_keyed keyOf_int_mk)
set_option maxRecDepth 100000
set_option linter.unusedVariables false
set_option linter.unusedSimpArgs false

theorem plcN_take_none (l : List Pr) (k : Nat) (p : Pr) (hn : (l.map Pr.pid).Nodup) (h : l[k]? = some p) : plcN Pr.pid p.pid (l.take k) = none := by
 have h1 := plcN_of_uniq Pr.pid l hn k p h
 cases hc : plcN Pr.pid p.pid (l.take k) with
 | none => rfl
 | some j =>
  obtain ⟨x, hx, hxp⟩ := plcN_some Pr.pid p.pid (l.take k) j hc
  have hjk : j < k := by have := (List.getElem?_eq_some_iff.1 hx).1; simp at this; omega
  rw [List.getElem?_take_of_lt hjk] at hx
  have h2 := plcN_of_uniq Pr.pid l hn j x hx
  rw [hxp, h1] at h2
  simp at h2
  omega
theorem makeMap_run (n : Int) (w : World) : (Instr.makeMap 281 (some (.int .i64 n))).run Tryz.prog w = .ok (.map (some w.heap.size)) (w.alloc (.map #[] 0)) := by kernel_rfl
set_option maxHeartbeats 2000000 in
theorem byPid_any (v : Value) (l : List Pr) (bs : List Nat) (w : World) (hs : l.length ≤ 1048576) (hn : (l.map Pr.pid).Nodup) (hwf : ∀ (i : Nat) (p : Pr), l[i]? = some p → (Lit.int .i64 p.pid).wf = true) (h : Procs w v l bs) :
  Calls Tryz.prog 229 #[v] w fun e w' => ∃ gs D, e = .returned (.map (some w.heap.size)) ∧ MapR w' w.heap.size l gs D ∧ Below w.heap.size w w' := by
 obtain ⟨a, c, rfl⟩ := h.slice
 have HR := hd h
 have HN := hd hn
 have HWF := hd hwf
 have hmm : (Instr.makeMap 281 (some (.int .i64 (l.length : Int)))).run Tryz.prog w = .ok (.map (some w.heap.size)) (w.alloc (.map #[] 0)) := makeMap_run _ _
 clear h hn hwf
 go_enter Tryz.func229, Tryz.ntmps229
 go_wp2_with fail
 go_loopw [11] (fun i wr => ∃ k : Nat, k ≤ l.length ∧ i = .int .i64 k ∧ Hid (∃ gs D, MapR wr w.heap.size (l.take k) gs D) ∧ Below w.heap.size w wr) (fun i _ => l.length - (intOf i).toNat)
 case atStart => exact ⟨0, Nat.zero_le _, rfl, hd ⟨_, _, map_start w⟩, (Below.refl _ _).alloc (Nat.le_refl _) _⟩
 case round =>
  obtain ⟨k, hk, rfl, hmr, hbel⟩ := hrel
  by_cases hlt : k < l.length
  ·obtain ⟨g, rfl⟩ : ∃ g, a = some ⟨g, 0, none⟩ := by
    rcases HR.out.cases with ⟨hh, h0, _⟩ | ⟨g, cap, hh, _⟩
    ·rw [h0] at hlt; simp at hlt
    ·simp at hh; exact ⟨g, hh.1⟩
   obtain ⟨p, cs, b', hp, hP, ho⟩ := (HR.out.below good_pr hbel).out hlt
   obtain ⟨z1, z2, z3, b1, b2, b3, rfl, i1, i2, i3, rfl⟩ := hP
   obtain ⟨x1, y1, rfl⟩ := i1.slice
   obtain ⟨x2, y2, rfl⟩ := i2.slice
   obtain ⟨x3, y3, rfl⟩ := i3.slice
   have d0 := ho.cell 0 _ rfl
   have d1 := ho.cell 1 _ rfl
   have d2 := ho.cell 2 _ rfl
   have d3 := ho.cell 3 _ rfl
   have d4 := ho.cell 4 _ rfl
   have d5 := ho.cell 5 _ rfl
   have d6 := ho.cell 6 _ rfl
   have d7 := ho.cell 7 _ rfl
   have d8 := ho.cell 8 _ rfl
   have d9 := ho.cell 9 _ rfl
   rw [Nat.add_zero] at d0
   unfold ic at d0 d1 d2 d3 d4 d8 d9
   have hk0 : (0 : Int) ≤ k := by omega
   have hk1 : (k : Int) < l.length := by omega
   have htl : (l.take k).length = k := by simp; omega
   have HT : Hid (l.take (k + 1) = l.take k ++ [p]) := hd (by
    obtain ⟨h1, h2⟩ := List.getElem?_eq_some_iff.1 hp
    rw [List.take_succ_eq_append_getElem h1, h2])
   have HNO := hd (plcN_take_none l k p HN.out hp)
   have hkey := keyOf_int_mk (P := Tryz.prog) Tryz.underlying3 (HWF.out k p hp)
   have hb1 : Below wr.heap.size wr (wr.alloc (.cells (p.cells (.slice x1 p.regs.length y1) (.slice x2 p.mem.length y2) (.slice x3 p.fds.length y3)).toArray 177)) := (Below.refl _ wr).alloc (Nat.le_refl _) _
   have hpa : PAt (wr.alloc (.cells (p.cells (.slice x1 p.regs.length y1) (.slice x2 p.mem.length y2) (.slice x3 p.fds.length y3)).toArray 177)) wr.heap.size p (.slice x1 p.regs.length y1) (.slice x2 p.mem.length y2) (.slice x3 p.fds.length y3) :=
    ⟨cell_box wr _ _ _ rfl, by simp, i1.ints.below hb1, i2.ints.below hb1, i3.ints.below hb1⟩
   obtain ⟨V, hV⟩ : ∃ V, wr.alloc (.cells (p.cells (.slice x1 p.regs.length y1) (.slice x2 p.mem.length y2) (.slice x3 p.fds.length y3)).toArray 177) = V := ⟨_, rfl⟩
   rw [hV] at hb1 hpa
   obtain ⟨gs, D, hD⟩ := hmr.out
   have hGM : wr.heap.size ≠ w.heap.size := by have := hD.own.lt; omega
   have hownV : V.ownsMap Tryz.prog 3 ptrElem w.heap.size k D := by
    have := (hD.below hb1).own
    rwa [htl] at this
   have HS := hd (fun w2 (h2 : w2.ownsMap Tryz.prog 3 ptrElem w.heap.size (k + 1) (D.put (key p.pid) (.lit (.int .i64 (wr.heap.size : Int))))) (hg : V.grownBy w2 (some w.heap.size)) => map_step (w2 := w2) (p := p) hD hGM hb1 hpa HNO.out (by rw [htl]; exact h2) hg)
   have c0 : V.cell? ⟨wr.heap.size, 0, none⟩ = some (.int .i64 p.pid) := hpa.cell 0 _ rfl
   have hbV : Below w.heap.size w V := hbel.trans (hb1.mono hbel.size)
   unfold Pr.cells ic at hV
   have hownL := hownV
   rw [← hV] at hownL
   replace hV := hd hV
   clear ho i1 i2 i3 hmr hD hp hpa c0
   go_wp2_with (at_mapUpdate; refine wpList_mapUpdate_own _ rfl _ _ _ 281 rfl 3 283 law Tryz.underlying281 ptrElem w.heap.size k _ rfl hownL (by unfold maxLen; omega) _ _ _ rfl rfl hkey _ [] (ptrElem_mk _) ?_)
   intro w2 hown2 hg2
   rw [hV.out] at hg2
   have HM2 := hd (HS.out w2 hown2 hg2)
   have hb2 : Below w.heap.size w w2 := hbV.grown hg2 hbV.size (fun j hj => by cases hj; exact Nat.le_refl _)
   clear hown2 hg2
   go_wp2_with fail
   go_roundw
   case rel => exact ⟨k + 1, by omega, by go_num, hd (by rw [HT.out]; exact ⟨_, _, HM2.out⟩), hb2⟩
   case measure => simp [intOf]; omega
  ·obtain rfl : k = l.length := by omega
   go_wp2
   go_ret
   obtain ⟨gs, D, hD⟩ := hmr.out
   rw [List.take_length] at hD
   exact ⟨gs, D, rfl, hD, hbel⟩

end Go.Proofs.YtoeolfegmklbaaaGreat.ImF
