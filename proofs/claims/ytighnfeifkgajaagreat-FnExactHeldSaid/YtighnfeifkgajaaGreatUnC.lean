/- What there is, as numbers and lists, and how it lies in memory. Condition: none. -/
import Derived.Test.YtighnfeifkgajaaGreatPrgL
import Derived.Test.YtighnfeifkgajaaGreatCpuC
namespace Go.Proofs.YtighnfeifkgajaaGreat.UnC
open Go.RowKit Go.Deep Num InsC InsO ProgC IntC RowC PrgL
set_option maxRecDepth 100000
set_option linter.unusedVariables false
set_option linter.unusedSimpArgs false

/-- A process. -/
structure Pr where
  pid : Int
  parent : Int
  state : Int
  prog : Int
  pc : Int
  regs : List Int
  mem : List Int
  fds : List Int
  til : Int
  code : Int
  deriving Inhabited, DecidableEq
/-- Something that is open. -/
structure Ope where
  id : Int
  kind : Int
  target : Int
  off : Int
  refs : Int
  deriving Inhabited, DecidableEq
/-- A pipe, or a file. -/
structure Pip where
  id : Int
  data : List Int
  deriving Inhabited, DecidableEq
/-- All there is. -/
structure Un where
  next : Int
  tick : Int
  progs : List (List Q)
  procs : List Pr
  opens : List Ope
  pipes : List Pip
  files : List Pip
  ready : List Int
  out : List Int
  deriving Inhabited, DecidableEq

def Ope.cells (o : Ope) : List Value := [ic o.id, ic o.kind, ic o.target, ic o.off, ic o.refs]
def Pr.cells (p : Pr) (v1 v2 v3 : Value) : List Value := [ic p.pid, ic p.parent, ic p.state, ic p.prog, ic p.pc, v1, v2, v3, ic p.til, ic p.code]
def Pip.cells (p : Pip) (v : Value) : List Value := [ic p.id, v]
def Un.cells (u : Un) (v1 v2 v3 v4 v5 v6 v7 : Value) : List Value := [ic u.next, ic u.tick, v1, v2, v3, v4, v5, v6, v7]

def POp (w : World) (cs : List Value) (o : Ope) (b : List Nat) : Prop := cs = o.cells ∧ b = []
def PPr (w : World) (cs : List Value) (p : Pr) (b : List Nat) : Prop := ∃ v1 v2 v3 b1 b2 b3, cs = p.cells v1 v2 v3 ∧ IntsO w v1 p.regs b1 ∧ IntsO w v2 p.mem b2 ∧ IntsO w v3 p.fds b3 ∧ b = b1 ++ (b2 ++ b3)
def PPi (w : World) (cs : List Value) (p : Pip) (b : List Nat) : Prop := ∃ v, cs = p.cells v ∧ IntsO w v p.data b
theorem good_op : RowC.Good POp := ⟨fun h _ _ => h, fun h y hy => by rw [h.2] at hy; simp at hy⟩
theorem good_pr : RowC.Good PPr := by
  refine ⟨?_, ?_⟩
  · rintro w w' cs x b bs ⟨v1, v2, v3, b1, b2, b3, rfl, h1, h2, h3, rfl⟩ hk hd
    exact ⟨v1, v2, v3, b1, b2, b3, rfl, h1.keep hk (fun y hy => hd y (by simp [hy])), h2.keep hk (fun y hy => hd y (by simp [hy])), h3.keep hk (fun y hy => hd y (by simp [hy])), rfl⟩
  · rintro w cs x b ⟨v1, v2, v3, b1, b2, b3, rfl, h1, h2, h3, rfl⟩ y hy
    simp at hy
    rcases hy with hy | hy | hy
    · exact h1.lt y hy
    · exact h2.lt y hy
    · exact h3.lt y hy
theorem good_pi : RowC.Good PPi := by
  refine ⟨?_, ?_⟩
  · rintro w w' cs x b bs ⟨v, rfl, h1⟩ hk hd
    exact ⟨v, rfl, h1.keep hk hd⟩
  · rintro w cs x b ⟨v, rfl, h1⟩
    exact h1.lt
abbrev Procs := Row 55 10 PPr
abbrev Opens := Row 66 5 POp
abbrev Pipes := Row 71 2 PPi
abbrev Files := Row 76 2 PPi

/-- The blocks of all there is. -/
structure Bl where
  progs : List Nat
  procs : List Nat
  opens : List Nat
  pipes : List Nat
  files : List Nat
  ready : List Nat
  out : List Nat
def Bl.all (b : Bl) : List Nat := b.progs ++ (b.procs ++ (b.opens ++ (b.pipes ++ (b.files ++ (b.ready ++ b.out)))))
/-- The values of all there is. -/
structure Vs where
  progs : Value
  procs : Value
  opens : Value
  pipes : Value
  files : Value
  ready : Value
  out : Value
def Un.v (u : Un) (s : Vs) : Value := .agg #[ic u.next, ic u.tick, s.progs, s.procs, s.opens, s.pipes, s.files, s.ready, s.out]
structure UnO (w : World) (s : Vs) (u : Un) (b : Bl) : Prop where
  progs : Progs w s.progs u.progs b.progs
  procs : Procs w s.procs u.procs b.procs
  opens : Opens w s.opens u.opens b.opens
  pipes : Pipes w s.pipes u.pipes b.pipes
  files : Files w s.files u.files b.files
  ready : IntsO w s.ready u.ready b.ready
  out : IntsO w s.out u.out b.out
theorem UnO.keep {w w' : World} {s : Vs} {u : Un} {b : Bl} {bs : List Nat} (h : UnO w s u b) (hk : Keep bs w w') (hd : ∀ y ∈ b.all, y ∉ bs) : UnO w' s u b :=
  ⟨h.progs.keep good_prog hk (fun y hy => hd y (by simp [Bl.all, hy])), h.procs.keep good_pr hk (fun y hy => hd y (by simp [Bl.all, hy])), h.opens.keep good_op hk (fun y hy => hd y (by simp [Bl.all, hy])),
   h.pipes.keep good_pi hk (fun y hy => hd y (by simp [Bl.all, hy])), h.files.keep good_pi hk (fun y hy => hd y (by simp [Bl.all, hy])), h.ready.keep hk (fun y hy => hd y (by simp [Bl.all, hy])), h.out.keep hk (fun y hy => hd y (by simp [Bl.all, hy]))⟩
theorem UnO.below {w w' : World} {s : Vs} {u : Un} {b : Bl} (h : UnO w s u b) (hb : Below w.heap.size w w') : UnO w' s u b := h.keep (Keep.of_below [] hb) (by simp)
theorem UnO.lt {w : World} {s : Vs} {u : Un} {b : Bl} (h : UnO w s u b) : ∀ y ∈ b.all, y < w.heap.size := by
  intro y hy
  simp [Bl.all] at hy
  rcases hy with hy | hy | hy | hy | hy | hy | hy
  · exact h.progs.lt good_prog y hy
  · exact h.procs.lt good_pr y hy
  · exact h.opens.lt good_op y hy
  · exact h.pipes.lt good_pi y hy
  · exact h.files.lt good_pi y hy
  · exact h.ready.lt y hy
  · exact h.out.lt y hy

/-- Small enough for all that counts. -/
structure Pr.Sm (p : Pr) : Prop where
  regs : p.regs.length ≤ 1048576
  mem : p.mem.length ≤ 1048576
  fds : p.fds.length ≤ 1048576
structure Un.Sm (u : Un) : Prop where
  progs : wt u.progs ≤ 1048576
  procs : u.procs.length ≤ 1048576
  proc : ∀ (i : Nat) (p : Pr), u.procs[i]? = some p → Pr.Sm p
  opens : u.opens.length ≤ 1048576
  pipes : u.pipes.length ≤ 1048576
  pipe : ∀ (i : Nat) (p : Pip), u.pipes[i]? = some p → p.data.length ≤ 1048576
  files : u.files.length ≤ 1048576
  file : ∀ (i : Nat) (p : Pip), u.files[i]? = some p → p.data.length ≤ 1048576
  ready : u.ready.length ≤ 1048576
  out : u.out.length ≤ 1048576

theorem cell_of_below {W W' : World} {cs : List Value} {g : Nat} (h : ∀ j u, cs[j]? = some u → W.cell? ⟨g, j, none⟩ = some u) (hg : g < W.heap.size) (hb : Below W.heap.size W W') : ∀ j u, cs[j]? = some u → W'.cell? ⟨g, j, none⟩ = some u :=
  fun j u hu => (hb.cell (p := ⟨g, j, none⟩) hg).trans (h j u hu)
theorem cell_box (w : World) (cs : List Value) (t : TypeId) (g : Nat) (hg : g = w.heap.size) : ∀ j u, cs[j]? = some u → (w.alloc (.cells cs.toArray t)).cell? ⟨g, j, none⟩ = some u := by
  intro j u hu
  subst hg
  rw [World.cell?_alloc_at _ _ _ _ rfl]
  simpa using hu

end Go.Proofs.YtighnfeifkgajaaGreat.UnC
