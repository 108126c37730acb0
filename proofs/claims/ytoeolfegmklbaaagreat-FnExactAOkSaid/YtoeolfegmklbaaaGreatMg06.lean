/- Lists of programs: how they come in, the law's own copy of one, its size, its comparison. A Cpu and a Did as values: how they come in, the law's own copy, comparison, marks. What there is, as numbers and lists, and how it lies in memory. All there is, said in the one way and in the other. A region that draws its order, whose operations read and whose callees leave all that was there: one walk, in the text's order; and facts that stay through a whole body that only reads. Condition: none. -/
import Derived.Test.YtoeolfegmklbaaaGreatMg04
import Derived.Test.YtoeolfegmklbaaaGreatMg05
import Derived.OpenShut
import Derived.ChangeArms
import Derived.Test.YtoeolfegmklbaaaGreatTyM
import Derived.BigQuiet
namespace Go.Proofs.YtoeolfegmklbaaaGreat.PrgL
open Go.RowKit Go.ChangeShapes Go.WideShapes Go.Deep Num InsC InsO ProgC IntC RowC
set_option maxRecDepth 100000
set_option linter.unusedVariables false
set_option linter.unusedSimpArgs false

section
variable {H : Type} {enc : TypeId × Value → H} {w : World} {base : Nat} {spare : Nat → Bool} {held : Bool}
end

/-- What came in as u is the list l: its copy can be had whenever it is small enough. -/
def ToIns (w : World) (u : Value) (l : List Q) : Prop := (∃ a cap, u = .slice a l.length cap) ∧ l.length ≤ maxLen ∧ ∀ w1, Below w.heap.size w w1 → l.length ≤ 1048576 →
  Calls Tryz.prog 122 #[u] w1 fun e w' => ∃ v', e = .returned v' ∧ w'.ownsRow w1.heap.size 197 4 v' l.length (flat l) ∧ Below w1.heap.size w1 w'
theorem ToIns.below {w w' : World} {u : Value} {l : List Q} (h : ToIns w u l) (hb : Below w.heap.size w w') : ToIns w' u l := ⟨h.1, h.2.1, fun w1 hb1 => h.2.2 w1 (hb.trans (hb1.mono hb.size))⟩
/-- The list of programs L came in as v. -/
def ArgProgs (w : World) (v : Value) (L : List (List Q)) : Prop := (v = .slice none 0 0 ∧ L = []) ∨
 ∃ (x : Addr) (cap : Nat) (us : List Value), v = .slice (some x) L.length cap ∧ us.length = L.length ∧ L.length ≤ cap ∧ cap ≤ maxLen ∧ ∀ i u l, us[i]? = some u → L[i]? = some l → w.cell? (x.add i) = some u ∧ ToIns w u l
theorem ArgProgs.below {w w' : World} {v : Value} {L : List (List Q)} (h : ArgProgs w v L) (hb : Below w.heap.size w w') : ArgProgs w' v L := by
 rcases h with h | ⟨x, cap, us, h1, h2, h3, h4, h5⟩
 ·exact .inl h
 ·refine .inr ⟨x, cap, us, h1, h2, h3, h4, fun i u l hu hl => ?_⟩
  obtain ⟨a, b⟩ := h5 i u l hu hl
  exact ⟨(hb.cell (World.block_lt_of_cell? w _ a)).trans a, b.below hb⟩

/-- How many instructions there are in all. -/
def sumL (L : List (List Q)) : Nat := (L.map List.length).sum
/-- What the law counts. -/
def wt (L : List (List Q)) : Nat := L.length + sumL L
theorem sum_step (L : List (List Q)) (i : Nat) (l : List Q) (h : L[i]? = some l) : sumL (L.take (i + 1)) = sumL (L.take i) + l.length := by
 obtain ⟨hi, rfl⟩ := List.getElem?_eq_some_iff.1 h
 unfold sumL
 rw [List.take_succ_eq_append_getElem hi, List.map_append, List.sum_append]
 simp only [List.map_cons, List.map_nil, List.sum_cons, List.sum_nil, Nat.add_zero]
theorem sum_take (L : List (List Q)) (i : Nat) : sumL (L.take i) ≤ sumL L := by
 have : sumL L = sumL (L.take i) + sumL (L.drop i) := by
  unfold sumL
  rw [← List.sum_append, ← List.map_append, List.take_append_drop]
 omega
theorem sum_mem (L : List (List Q)) (i : Nat) (l : List Q) (h : L[i]? = some l) : sumL (L.take i) + l.length ≤ sumL L := by
 rw [← sum_step L i l h]; exact sum_take L (i + 1)

/-- The first j of the copies are made. -/
structure Pre (g : Nat) (L : List (List Q)) (z : List Value) (j : Nat) (bss : List (List Nat)) (wr : World) : Prop where
 len : bss.length = j
 at_ : ∀ i u l b, i < j → z[i]? = some u → L[i]? = some l → bss[i]? = some b → InsSO wr u l b
 nodup : bss.flatten.Nodup
 above : ∀ y ∈ bss.flatten, g < y
 lt : ∀ y ∈ bss.flatten, y < wr.heap.size
end Go.Proofs.YtoeolfegmklbaaaGreat.PrgL

namespace Go.Proofs.YtoeolfegmklbaaaGreat.CpuC
open Go.RowKit Go.ChangeShapes Go.WideShapes Go.Deep Num InsC InsO ProgC IntC
set_option maxRecDepth 100000
set_option linter.unusedVariables false
set_option linter.unusedSimpArgs false

def cpu (pc : Int) (v : Value) : Value := .agg #[.int .i64 pc, v]
section
variable {H : Type} {enc : TypeId × Value → H} {w : World} {base : Nat} {spare : Nat → Bool} {held : Bool}
end

theorem own_slice {W : World} {B e s : Nat} {v : Value} {n : Nat} {xs : List Value} (h : W.ownsRow B e s v n xs) : ∃ a c, v = .slice a n c := by
 rcases h.2 with ⟨rfl, h0⟩ | ⟨g, cap, cur, rfl, _⟩
 ·exact ⟨none, 0, by rw [h0]⟩
 ·exact ⟨_, _, rfl⟩

/-- Two cells, written one behind the other. -/
theorem two {w : World} {B : Nat} {x y : Value} (a b : Value) (h0 : w.cell? ⟨B, 0, none⟩ = some x) (h1 : w.cell? ⟨B, 1, none⟩ = some y) :
  ((w.setCell ⟨B, 0, none⟩ a).setCell ⟨B, 1, none⟩ b).cell? ⟨B, 0, none⟩ = some a ∧ ((w.setCell ⟨B, 0, none⟩ a).setCell ⟨B, 1, none⟩ b).cell? ⟨B, 1, none⟩ = some b := by
 refine ⟨(World.cell?_setCell_other _ _ _ _ (by simp)).trans (World.cell?_setCell_same _ _ _ h0), World.cell?_setCell_same _ _ _ ((World.cell?_setCell_other _ _ _ _ (by simp)).trans h1)⟩

end Go.Proofs.YtoeolfegmklbaaaGreat.CpuC

namespace Go.Proofs.YtoeolfegmklbaaaGreat.UnC
open Go.RowKit Go.Deep Num InsC InsO ProgC IntC RowC PrgL
set_option maxRecDepth 100000
set_option linter.unusedVariables false
set_option linter.unusedSimpArgs false

/-- A process. -/
structure Pr where
 pid : Int
 parent : Int
 state : Int
 prog : Int
 pc : Int
 regs : List Int
 mem : List Int
 fds : List Int
 til : Int
 code : Int
 deriving Inhabited, DecidableEq
/-- Something that is open. -/
structure Ope where
 id : Int
 kind : Int
 target : Int
 off : Int
 refs : Int
 deriving Inhabited, DecidableEq
/-- A pipe, or a file. -/
structure Pip where
 id : Int
 data : List Int
 deriving Inhabited, DecidableEq
/-- All there is. -/
structure Un where
 next : Int
 tick : Int
 progs : List (List Q)
 procs : List Pr
 opens : List Ope
 pipes : List Pip
 files : List Pip
 ready : List Int
 out : List Int
 deriving Inhabited, DecidableEq

def Ope.cells (o : Ope) : List Value := [ic o.id, ic o.kind, ic o.target, ic o.off, ic o.refs]
def Pr.cells (p : Pr) (v1 v2 v3 : Value) : List Value := [ic p.pid, ic p.parent, ic p.state, ic p.prog, ic p.pc, v1, v2, v3, ic p.til, ic p.code]
def Pip.cells (p : Pip) (v : Value) : List Value := [ic p.id, v]
def Un.cells (u : Un) (v1 v2 v3 v4 v5 v6 v7 : Value) : List Value := [ic u.next, ic u.tick, v1, v2, v3, v4, v5, v6, v7]

def POp (w : World) (cs : List Value) (o : Ope) (b : List Nat) : Prop := cs = o.cells ∧ b = []
def PPr (w : World) (cs : List Value) (p : Pr) (b : List Nat) : Prop := ∃ v1 v2 v3 b1 b2 b3, cs = p.cells v1 v2 v3 ∧ IntsO w v1 p.regs b1 ∧ IntsO w v2 p.mem b2 ∧ IntsO w v3 p.fds b3 ∧ b = b1 ++ (b2 ++ b3)
def PPi (w : World) (cs : List Value) (p : Pip) (b : List Nat) : Prop := ∃ v, cs = p.cells v ∧ IntsO w v p.data b
theorem good_op : RowC.Good POp := ⟨fun h _ _ => h, fun h y hy => by rw [h.2] at hy; simp at hy⟩
theorem good_pr : RowC.Good PPr := by
 refine ⟨?_, ?_⟩
 ·rintro w w' cs x b bs ⟨v1, v2, v3, b1, b2, b3, rfl, h1, h2, h3, rfl⟩ hk hd
  exact ⟨v1, v2, v3, b1, b2, b3, rfl, h1.keep hk (fun y hy => hd y (by simp [hy])), h2.keep hk (fun y hy => hd y (by simp [hy])), h3.keep hk (fun y hy => hd y (by simp [hy])), rfl⟩
 ·rintro w cs x b ⟨v1, v2, v3, b1, b2, b3, rfl, h1, h2, h3, rfl⟩ y hy
  simp at hy
  rcases hy with hy | hy | hy
  ·exact h1.lt y hy
  ·exact h2.lt y hy
  ·exact h3.lt y hy
theorem good_pi : RowC.Good PPi := by
 refine ⟨?_, ?_⟩
 ·rintro w w' cs x b bs ⟨v, rfl, h1⟩ hk hd
  exact ⟨v, rfl, h1.keep hk hd⟩
 ·rintro w cs x b ⟨v, rfl, h1⟩
  exact h1.lt
abbrev Procs := Row 177 10 PPr
abbrev Opens := Row 93 5 POp
abbrev Pipes := Row 103 2 PPi
abbrev Files := Row 115 2 PPi

/-- The blocks of all there is. -/
structure Bl where
 progs : List Nat
 procs : List Nat
 opens : List Nat
 pipes : List Nat
 files : List Nat
 ready : List Nat
 out : List Nat
def Bl.all (b : Bl) : List Nat := b.progs ++ (b.procs ++ (b.opens ++ (b.pipes ++ (b.files ++ (b.ready ++ b.out)))))
/-- The values of all there is. -/
structure Vs where
 progs : Value
 procs : Value
 opens : Value
 pipes : Value
 files : Value
 ready : Value
 out : Value
def Un.v (u : Un) (s : Vs) : Value := .agg #[ic u.next, ic u.tick, s.progs, s.procs, s.opens, s.pipes, s.files, s.ready, s.out]
structure UnO (w : World) (s : Vs) (u : Un) (b : Bl) : Prop where
 progs : Progs w s.progs u.progs b.progs
 procs : Procs w s.procs u.procs b.procs
 opens : Opens w s.opens u.opens b.opens
 pipes : Pipes w s.pipes u.pipes b.pipes
 files : Files w s.files u.files b.files
 ready : IntsO w s.ready u.ready b.ready
 out : IntsO w s.out u.out b.out
theorem UnO.keep {w w' : World} {s : Vs} {u : Un} {b : Bl} {bs : List Nat} (h : UnO w s u b) (hk : Keep bs w w') (hd : ∀ y ∈ b.all, y ∉ bs) : UnO w' s u b :=
 ⟨h.progs.keep good_prog hk (fun y hy => hd y (by simp [Bl.all, hy])), h.procs.keep good_pr hk (fun y hy => hd y (by simp [Bl.all, hy])), h.opens.keep good_op hk (fun y hy => hd y (by simp [Bl.all, hy])),
 h.pipes.keep good_pi hk (fun y hy => hd y (by simp [Bl.all, hy])), h.files.keep good_pi hk (fun y hy => hd y (by simp [Bl.all, hy])), h.ready.keep hk (fun y hy => hd y (by simp [Bl.all, hy])), h.out.keep hk (fun y hy => hd y (by simp [Bl.all, hy]))⟩
theorem UnO.below {w w' : World} {s : Vs} {u : Un} {b : Bl} (h : UnO w s u b) (hb : Below w.heap.size w w') : UnO w' s u b := h.keep (Keep.of_below [] hb) (by simp)
theorem UnO.lt {w : World} {s : Vs} {u : Un} {b : Bl} (h : UnO w s u b) : ∀ y ∈ b.all, y < w.heap.size := by
 intro y hy
 simp [Bl.all] at hy
 rcases hy with hy | hy | hy | hy | hy | hy | hy
 ·exact h.progs.lt good_prog y hy
 ·exact h.procs.lt good_pr y hy
 ·exact h.opens.lt good_op y hy
 ·exact h.pipes.lt good_pi y hy
 ·exact h.files.lt good_pi y hy
 ·exact h.ready.lt y hy
 ·exact h.out.lt y hy

/-- Small enough for all that counts. -/
structure Pr.Sm (p : Pr) : Prop where
 regs : p.regs.length ≤ 1048576
 mem : p.mem.length ≤ 1048576
 fds : p.fds.length ≤ 1048576
structure Un.Sm (u : Un) : Prop where
 progs : wt u.progs ≤ 1048576
 procs : u.procs.length ≤ 1048576
 proc : ∀ (i : Nat) (p : Pr), u.procs[i]? = some p → Pr.Sm p
 opens : u.opens.length ≤ 1048576
 pipes : u.pipes.length ≤ 1048576
 pipe : ∀ (i : Nat) (p : Pip), u.pipes[i]? = some p → p.data.length ≤ 1048576
 files : u.files.length ≤ 1048576
 file : ∀ (i : Nat) (p : Pip), u.files[i]? = some p → p.data.length ≤ 1048576
 ready : u.ready.length ≤ 1048576
 out : u.out.length ≤ 1048576

theorem cell_of_below {W W' : World} {cs : List Value} {g : Nat} (h : ∀ j u, cs[j]? = some u → W.cell? ⟨g, j, none⟩ = some u) (hg : g < W.heap.size) (hb : Below W.heap.size W W') : ∀ j u, cs[j]? = some u → W'.cell? ⟨g, j, none⟩ = some u :=
 fun j u hu => (hb.cell (p := ⟨g, j, none⟩) hg).trans (h j u hu)
theorem cell_box (w : World) (cs : List Value) (t : TypeId) (g : Nat) (hg : g = w.heap.size) : ∀ j u, cs[j]? = some u → (w.alloc (.cells cs.toArray t)).cell? ⟨g, j, none⟩ = some u := by
 intro j u hu
 subst hg
 rw [World.cell?_alloc_at _ _ _ _ rfl]
 simpa using hu

end Go.Proofs.YtoeolfegmklbaaaGreat.UnC

namespace Go.Proofs.YtoeolfegmklbaaaGreat.BrU
open Go.RowKit Go.Deep Num InsC InsO ProgC IntC RowC PrgL UnC TyA TyM
set_option maxRecDepth 100000
set_option linter.unusedVariables false
set_option linter.unusedSimpArgs false

def toQ (x : MIns) : Q := ⟨x.fOp, x.fA, x.fB, x.fC⟩
def toPr (x : MProc) : Pr := ⟨x.fPid, x.fParent, x.fState, x.fProg, x.fCpu.fPc, x.fCpu.fRegs, x.fMem, x.fFds, x.fUntil, x.fCode⟩
def toOpe (x : MOpen) : Ope := ⟨x.fId, x.fKind, x.fTarget, x.fOff, x.fRefs⟩
def toPi (x : MPipe) : Pip := ⟨x.fId, x.fData⟩
def toFi (x : MFile) : Pip := ⟨x.fName, x.fData⟩
def toUn (x : MUnix) : Un := ⟨x.fNext, x.fTick, x.fProgs.map (List.map toQ), x.fProcs.map toPr, x.fOpens.map toOpe, x.fPipes.map toPi, x.fFiles.map toFi, x.fReady, x.fOut⟩

theorem row_map {α β : Type} {e k : Nat} {P : World → List Value → α → List Nat → Prop} {P' : World → List Value → β → List Nat → Prop} (f : α → β) {w : World} {v : Value} {l : List α} {bs : List Nat} (h : Row e k P w v l bs) (hf : ∀ cs x b, P w cs x b → P' w cs (f x) b) : Row e k P' w v (l.map f) bs := by
 obtain ⟨xs, bss, h1, h2, h3, h4⟩ := h
 refine ⟨xs, bss, by rw [List.length_map]; exact h1, by rw [List.length_map]; exact h2, h3, fun i y b hy hb => ?_⟩
 rw [List.getElem?_map] at hy
 obtain ⟨x, hx, rfl⟩ := Option.map_eq_some_iff.1 hy
 exact hf _ _ _ (h4 i x b hx hb)
theorem flat_len (l : List MIns) : (flat (l.map toQ)).length = l.length * 4 := by
 induction l with
 | nil => rfl
 | cons t l ih => rw [List.map_cons, show flat (toQ t :: l.map toQ) = (toQ t).cells ++ flat (l.map toQ) by simp [flat], List.length_append, ih, show (toQ t).cells.length = 4 from rfl, List.length_cons]; omega
theorem flat_at (l : List MIns) (i : Nat) (x : MIns) (h : l[i]? = some x) : ((flat (l.map toQ)).drop (i * 4)).take 4 = x.cells := by
 obtain ⟨hi, e⟩ := List.getElem?_eq_some_iff.1 h
 have es : l = l.take i ++ x :: l.drop (i + 1) := by rw [← e, ← List.drop_eq_getElem_cons hi, List.take_append_drop]
 have h1 : flat (l.map toQ) = flat ((l.take i).map toQ) ++ (x.cells ++ flat ((l.drop (i + 1)).map toQ)) := by
  conv => lhs; rw [es]
  simp [flat]
  rfl
 have h2 : (flat ((l.take i).map toQ)).length = i * 4 := by rw [flat_len, List.length_take, Nat.min_eq_left (Nat.le_of_lt hi)]
 rw [h1, ← h2, List.drop_left]
 exact List.take_left' (show x.cells.length = 4 from rfl)
theorem ins_of {w : World} {v : Value} {l : List MIns} {b : List Nat} (h : OInsS w v l b) : InsSO w v (l.map toQ) b := by
 obtain ⟨xs, bss, h1, h2, rfl, h4⟩ := h
 have hl := h1.1
 have hx : xs = flat (l.map toQ) := by
  apply List.ext_getElem?
  intro j
  by_cases hj : j < l.length * 4
  ·have hi : j / 4 < l.length := by omega
   have e1 := h4 (j / 4) l[j / 4] (bss[j / 4]'(by omega)) (List.getElem?_eq_getElem hi) (List.getElem?_eq_getElem (by omega))
   have e2 := flat_at l (j / 4) l[j / 4] (List.getElem?_eq_getElem hi)
   have e3 : ((xs.drop (j / 4 * 4)).take 4)[j % 4]? = (((flat (l.map toQ)).drop (j / 4 * 4)).take 4)[j % 4]? := by rw [e1.1, e2]
   rw [List.getElem?_take_of_lt (Nat.mod_lt j (by omega : 0 < 4)), List.getElem?_take_of_lt (Nat.mod_lt j (by omega : 0 < 4)), List.getElem?_drop, List.getElem?_drop] at e3
   rwa [show j / 4 * 4 + j % 4 = j by omega] at e3
  ·rw [List.getElem?_eq_none (by omega), List.getElem?_eq_none (by rw [flat_len]; omega)]
 have hb : bss.flatten = [] := by
  rw [List.flatten_eq_nil_iff]
  intro b hb
  obtain ⟨i, hi⟩ := List.getElem?_of_mem hb
  have hil := (List.getElem?_eq_some_iff.1 hi).1
  exact (h4 i (l[i]'(by omega)) b (List.getElem?_eq_getElem (by omega)) hi).2
 refine ⟨?_, by rw [hb, List.append_nil]⟩
 rw [List.length_map, ← hx]
 exact h1
theorem un_of {w : World} {cs : List Value} {u : MUnix} {b : List Nat} (h : PUnix w cs u b) : ∃ s bl, (.agg cs.toArray : Value) = (toUn u).v s ∧ UnO w s (toUn u) bl := by
 obtain ⟨v1, v2, v3, v4, v5, v6, v7, b1, b2, b3, b4, b5, b6, b7, rfl, h1, h2, h3, h4, h5, h6, h7, rfl⟩ := h
 refine ⟨⟨v1, v2, v3, v4, v5, v6, v7⟩, ⟨b1, b2, b3, b4, b5, b6, b7⟩, rfl, ⟨?_, ?_, ?_, ?_, ?_, h6, h7⟩⟩
 ·exact row_map _ h1 (fun cs x b ⟨v, hv, hx⟩ => ⟨v, hv, ins_of hx⟩)
 ·refine row_map toPr h2 (fun cs x b hx => ?_)
  obtain ⟨a1, a2, a3, c1, c2, c3, rfl, i1, i2, i3, rfl⟩ := hx
  exact ⟨a1, a2, a3, c1, c2, c3, rfl, i1, i2, i3, rfl⟩
 ·exact row_map toOpe h3 (fun cs x b hx => hx)
 ·refine row_map toPi h4 (fun cs x b hx => ?_)
  obtain ⟨a1, c1, rfl, i1, rfl⟩ := hx
  exact ⟨a1, rfl, i1⟩
 ·refine row_map toFi h5 (fun cs x b hx => ?_)
  obtain ⟨a1, c1, rfl, i1, rfl⟩ := hx
  exact ⟨a1, rfl, i1⟩
theorem wt_of (l : List (List MIns)) : wt (l.map (List.map toQ)) = z_InsSS l := by
 unfold wt sumL z_InsSS wS sumW z_InsS
 simp [List.map_map, Function.comp_def]
end Go.Proofs.YtoeolfegmklbaaaGreat.BrU

namespace Go.Proofs.YtoeolfegmklbaaaGreat.Bel
open Go.RowKit Go.Deep RowC
set_option maxRecDepth 100000
set_option linter.unusedVariables false
set_option linter.unusedSimpArgs false

/-- A world in which all that was there in W is as it was. -/
structure Bel (W : World) where
 w : World
 ok : Below W.heap.size W w
theorem Bel.ne (W : World) : Nonempty (Bel W) := ⟨⟨W, Below.refl _ _⟩⟩
variable {P : Program} {W : World}
theorem region_in {id : Nat} {Q : Exit → Act → World → Prop} {a : Act} (x : Bel W) {l : List Oper} (hm : P.follows .mixedOrders = true) (hB : Region.lexB .any l.toArray = true)
  (h : Nonempty (Bel W) → wpQuiet P l.toArray (fun w' => ∃ x : Bel W, w' = x.w) (fun a' => ∀ w', (∃ x : Bel W, w' = x.w) → Q .normal a' w') l a) : (Code.region id l.toArray true).wp P Q a x.w :=
 wp_region_quiet (C := fun w' => ∃ x : Bel W, w' = x.w) hm hB ⟨⟨x.w.drew, x.ok.drew⟩, rfl⟩ (by have h1 := h (Bel.ne W); simpa using h1)
theorem region_bel {id : Nat} {Q : Exit → Act → World → Prop} {a : Act} {l : List Oper} (hm : P.follows .mixedOrders = true) (hB : Region.lexB .any l.toArray = true)
  (h : Nonempty (Bel W) → wpQuiet P l.toArray (fun w' => ∃ x : Bel W, w' = x.w) (fun a' => ∀ w', (∃ x : Bel W, w' = x.w) → Q .normal a' w') l a) : (Code.region id l.toArray true).wp P Q a W :=
 region_in ⟨W, Below.refl _ _⟩ hm hB h
theorem bel_of {f : FuncId} {args : Array Value} {x : Bel W} {v : Value} (h : Calls P f args x.w fun e w' => e = .returned v ∧ Below x.w.heap.size x.w w') :
  Calls P f args x.w fun e w'' => e = .returned v ∧ ∃ y : Bel W, w'' = y.w :=
 h.mono fun _ w' ⟨he, hb⟩ => ⟨he, ⟨w', x.ok.trans (hb.mono x.ok.size)⟩, rfl⟩
theorem bel_same {f : FuncId} {args : Array Value} {x : Bel W} {v : Value} (h : Calls P f args x.w fun e w' => e = .returned v ∧ x.w = w') :
  Calls P f args x.w fun e w'' => e = .returned v ∧ ∃ y : Bel W, w'' = y.w :=
 h.mono fun _ w' ⟨he, hb⟩ => ⟨he, x, hb.symm⟩
/-- A callee that reads, in every such world. -/
def CallB (P : Program) (W : World) (f : FuncId) (args : Array Value) (v : Value) : Prop := ∀ x : Bel W, Calls P f args x.w fun e w' => e = .returned v ∧ ∃ y : Bel W, w' = y.w
theorem callB {f : FuncId} {args : Array Value} {v : Value} (h : ∀ X, Below W.heap.size W X → Calls P f args X fun e w' => e = .returned v ∧ Below X.heap.size X w') : CallB P W f args v := fun x => bel_of (h x.w x.ok)
theorem callS {f : FuncId} {args : Array Value} {v : Value} (h : ∀ X, Calls P f args X fun e w' => e = .returned v ∧ X = w') : CallB P W f args v := fun x => bel_same (h x.w)
theorem Bel.cell (x : Bel W) {g j : Nat} {v : Value} (h : W.cell? ⟨g, j, none⟩ = some v) : x.w.cell? ⟨g, j, none⟩ = some v :=
 (x.ok.cell (p := ⟨g, j, none⟩) (World.block_lt_of_cell? W _ h)).trans h
theorem cellB {g j : Nat} {v : Value} (h : W.cell? ⟨g, j, none⟩ = some v) (x : Bel W) : x.w.cell? ⟨g, j, none⟩ = some v := x.cell h
theorem Bel.fin {w : World} (h : Below w.heap.size w W) (x : Bel W) : Below w.heap.size w x.w := h.trans (x.ok.mono h.size)
/-- .. and in every world that is further on. -/
def CallG (P : Program) (W : World) (f : FuncId) (args : Array Value) (v : Value) : Prop := ∀ V, Below W.heap.size W V → CallB P V f args v
theorem callG {f : FuncId} {args : Array Value} {v : Value} (h : ∀ X, Below W.heap.size W X → Calls P f args X fun e w' => e = .returned v ∧ Below X.heap.size X w') : CallG P W f args v :=
 fun V hV => callB fun X hX => h X (hV.trans (hX.mono hV.size))
theorem callGS {f : FuncId} {args : Array Value} {v : Value} (h : ∀ X, Below W.heap.size W X → Calls P f args X fun e w' => e = .returned v ∧ X = w') : CallG P W f args v :=
 fun V hV x => bel_same (h x.w (hV.trans (x.ok.mono hV.size)))
theorem CallG.now {f : FuncId} {args : Array Value} {v : Value} (h : CallG P W f args v) : CallB P W f args v := h W (Below.refl _ _)
def Bel.up {V : World} (h : Below W.heap.size W V) (x : Bel V) : Bel W := ⟨x.w, h.trans (x.ok.mono h.size)⟩
theorem cellV {V : World} (h : Below W.heap.size W V) {g j : Nat} {v : Value} (hc : ∀ x : Bel W, x.w.cell? ⟨g, j, none⟩ = some v) (x : Bel V) : x.w.cell? ⟨g, j, none⟩ = some v := hc (x.up h)
theorem Bel.box (x : Bel W) (o : Obj) : Below W.heap.size W (x.w.alloc o) := x.ok.alloc x.ok.size o
theorem Bel.alloc (x : Bel W) (o : Obj) : ∃ y : Bel W, x.w.alloc o = y.w := ⟨⟨_, x.ok.alloc x.ok.size o⟩, rfl⟩

end Go.Proofs.YtoeolfegmklbaaaGreat.Bel
