/- All there is, as it comes in. Condition: none. -/
import Derived.Test.YtighnfeifkgajaaGreatUnC
import Derived.Deep.Slices
import Derived.ChangeSlices
namespace Go.Proofs.YtighnfeifkgajaaGreat.ArgU
open Go.RowKit Go.ChangeShapes Go.WideShapes Go.Deep Num InsC InsO ProgC IntC RowC PrgL UnC
set_option maxRecDepth 100000
set_option linter.unusedVariables false
set_option linter.unusedSimpArgs false

/-- Numbers that came in as u: their copy can be had whenever they are few enough. -/
def ToI (w : World) (u : Value) (l : List Int) : Prop := (∃ a cap, u = .slice a l.length cap) ∧ l.length ≤ maxLen ∧ ∀ w1, Below w.heap.size w w1 → l.length ≤ 1048576 →
    Calls Tryz.prog 36 #[u] w1 fun e w' => ∃ v', e = .returned v' ∧ w'.ownsRow w1.heap.size 3 1 v' l.length (l.map ic) ∧ Below w1.heap.size w1 w'
theorem toI_any (u : Value) (w : World) (h : IsInts w u) : ∃ l, ToI w u l := by
  obtain ⟨l, ⟨n, cap, a, rfl, rfl, hn⟩, h2⟩ := toIntS_any u w h
  exact ⟨l, ⟨a, cap, rfl⟩, hn, h2⟩
theorem ToI.below {w w' : World} {u : Value} {l : List Int} (h : ToI w u l) (hb : Below w.heap.size w w') : ToI w' u l := ⟨h.1, h.2.1, fun w1 hb1 => h.2.2 w1 (hb.trans (hb1.mono hb.size))⟩

/-- What is said of an element that came in stays. -/
def Stays {α : Type} (E : World → List Value → α → Prop) : Prop := ∀ {w w' : World} {cs : List Value} {x : α}, E w cs x → Below w.heap.size w w' → E w' cs x
/-- A list of elements of k cells each that came in. -/
def ArgRow {α : Type} (k : Nat) (E : World → List Value → α → Prop) (w : World) (v : Value) (L : List α) : Prop := (v = .slice none 0 0 ∧ L = []) ∨
  ∃ (x : Addr) (cap : Nat) (css : List (List Value)), v = .slice (some x) L.length cap ∧ css.length = L.length ∧ L.length ≤ cap ∧ cap ≤ maxLen ∧ ∀ i cs l, css[i]? = some cs → L[i]? = some l → (∀ j u, cs[j]? = some u → w.cell? (x.add (i * k + j)) = some u) ∧ E w cs l
theorem ArgRow.below {α : Type} {k : Nat} {E : World → List Value → α → Prop} (hE : Stays E) {w w' : World} {v : Value} {L : List α} (h : ArgRow k E w v L) (hb : Below w.heap.size w w') : ArgRow k E w' v L := by
  rcases h with h | ⟨x, cap, css, h1, h2, h3, h4, h5⟩
  · exact .inl h
  · refine .inr ⟨x, cap, css, h1, h2, h3, h4, fun i cs l hu hl => ?_⟩
    obtain ⟨a, b⟩ := h5 i cs l hu hl
    exact ⟨fun j u hj => (hb.cell (World.block_lt_of_cell? w _ (a j u hj))).trans (a j u hj), hE b hb⟩
theorem ArgRow.slice {α : Type} {k : Nat} {E : World → List Value → α → Prop} {w : World} {v : Value} {L : List α} (h : ArgRow k E w v L) : (∃ a c, v = .slice a L.length c) ∧ L.length ≤ maxLen := by
  rcases h with ⟨rfl, rfl⟩ | ⟨x, cap, css, rfl, _, h3, h4, _⟩
  · exact ⟨⟨_, _, rfl⟩, by simp⟩
  · exact ⟨⟨_, _, rfl⟩, by omega⟩

def AOp (w : World) (cs : List Value) (o : Ope) : Prop := cs = o.cells
def APi (w : World) (cs : List Value) (p : Pip) : Prop := ∃ v, cs = p.cells v ∧ ToI w v p.data
def APr (w : World) (cs : List Value) (p : Pr) : Prop := ∃ v1 v2 v3, cs = p.cells v1 v2 v3 ∧ ToI w v1 p.regs ∧ ToI w v2 p.mem ∧ ToI w v3 p.fds
theorem stay_op : Stays AOp := fun h _ => h
theorem stay_pi : Stays APi := fun ⟨v, h1, h2⟩ hb => ⟨v, h1, h2.below hb⟩
theorem stay_pr : Stays APr := fun ⟨v1, v2, v3, h0, h1, h2, h3⟩ hb => ⟨v1, v2, v3, h0, h1.below hb, h2.below hb, h3.below hb⟩

section
variable {H : Type} {enc : TypeId × Value → H} {w : World} {base : Nat} {spare : Nat → Bool} {held : Bool}
theorem ints_cell {fuel : Nat} {u : Value} {x : DataW H × List MemPlace} (h : DataW.trod enc Tryz.prog w base spare held fuel 27 [u] = some x) : ∃ l, ToI w u l := by
  refine toI_any u w ?_
  rcases open_ints Tryz.underlying27 Tryz.underlying3 (by kernel_rfl) h with ⟨hcs', _⟩ | ⟨y, l, c, zs, hcs', _⟩
  · simp at hcs'
    subst hcs'
    exact ints_of rfl h
  · simp at hcs'
    subst hcs'
    exact ints_of rfl h
theorem arg_row {α : Type} [Inhabited α] {E : World → List Value → α → Prop} {t e : TypeId} {k : Nat} (ht : Tryz.prog.underlying t = some (.slice e)) (hc : Tryz.prog.cellsOf e = k)
    (hel : ∀ (fuel : Nat) (cs : List Value) (x : DataW H × List MemPlace), DataW.trod enc Tryz.prog w base spare held fuel e cs = some x → ∃ a, E w cs a)
    {fuel : Nat} {u : Value} {x : DataW H × List MemPlace} (h : DataW.trod enc Tryz.prog w base spare held fuel t [u] = some x) : ∃ L, ArgRow k E w u L := by
  rcases open_slice ht h with ⟨hcs, _⟩ | ⟨x, l, c, m, n, D, Pl, hcs, _, hl, hm, hmm, _, hx⟩
  · simp at hcs
    exact ⟨[], .inl ⟨hcs, rfl⟩⟩
  · simp at hcs
    subst hcs
    have hlm : l ≤ m := by rw [hmm]; split <;> omega
    have each : ∀ i, i < l → ∃ q : List Value × α, (∀ j u, q.1[j]? = some u → w.cell? (x.add (i * k + j)) = some u) ∧ E w q.1 q.2 := by
      intro i hi
      obtain ⟨cs', h1, h2⟩ := hx i (by omega)
      obtain ⟨a, ha⟩ := hel _ _ _ h2
      rw [hc] at h1
      obtain ⟨_, hlen, hcc⟩ := World.cells?_some h1
      refine ⟨(cs', a), fun j u hj => ?_, ha⟩
      have hjk : j < k := by
        have := (List.getElem?_eq_some_iff.1 hj).1
        simp at this
        omega
      rw [← add_add, hcc j hjk, hj]
    obtain ⟨f, hf⟩ := choose_lt each
    refine ⟨(List.range l).map fun i => (f i).2, .inr ⟨x, c, (List.range l).map fun i => (f i).1, by simp, by simp, by simpa using hl, hm, fun i cs a hcs ha => ?_⟩⟩
    rw [List.getElem?_map] at hcs ha
    obtain ⟨i', hi', rfl⟩ := Option.map_eq_some_iff.1 hcs
    obtain ⟨hi1, hi2⟩ := List.getElem?_eq_some_iff.1 hi'
    simp at hi1 hi2
    subst hi2
    rw [hi'] at ha
    simp at ha
    subst ha
    exact hf i hi1

theorem c_int : Tryz.prog.cellsOf 3 = 1 := by kernel_rfl
theorem c_ints : Tryz.prog.cellsOf 27 = 1 := by kernel_rfl
theorem c_cpu : Tryz.prog.cellsOf 93 = 2 := by kernel_rfl
theorem c_open : Tryz.prog.cellsOf 109 = 5 := by kernel_rfl
theorem c_pipe : Tryz.prog.cellsOf 97 = 2 := by kernel_rfl
theorem c_file : Tryz.prog.cellsOf 99 = 2 := by kernel_rfl
theorem c_proc : Tryz.prog.cellsOf 95 = 10 := by kernel_rfl
theorem trod_open (fuel : Nat) (cs : List Value) (x : DataW H × List MemPlace) (h : DataW.trod enc Tryz.prog w base spare held fuel 109 cs = some x) : ∃ o, AOp w cs o := by
  obtain ⟨xs, n, _, _, hl, hxl, hf⟩ := DataW.trod_struct Tryz.underlying109 h
  rw [c_open] at hl
  match xs, hxl, cs, hl with
  | [y0, y1, y2, y3, y4], _, [v0, v1, v2, v3, v4], _ =>
    have g0 := hf 0 _ rfl
    have g1 := hf 1 _ rfl
    have g2 := hf 2 _ rfl
    have g3 := hf 3 _ rfl
    have g4 := hf 4 _ rfl
    simp [c_int] at g0 g1 g2 g3 g4
    obtain ⟨n0, e0, _, _⟩ := DataW.trod_int Tryz.underlying3 g0
    obtain ⟨n1, e1, _, _⟩ := DataW.trod_int Tryz.underlying3 g1
    obtain ⟨n2, e2, _, _⟩ := DataW.trod_int Tryz.underlying3 g2
    obtain ⟨n3, e3, _, _⟩ := DataW.trod_int Tryz.underlying3 g3
    obtain ⟨n4, e4, _, _⟩ := DataW.trod_int Tryz.underlying3 g4
    simp at e0 e1 e2 e3 e4
    subst e0 e1 e2 e3 e4
    exact ⟨⟨n0, n1, n2, n3, n4⟩, rfl⟩
theorem trod_pipe (fuel : Nat) (cs : List Value) (x : DataW H × List MemPlace) (h : DataW.trod enc Tryz.prog w base spare held fuel 97 cs = some x) : ∃ o, APi w cs o := by
  obtain ⟨xs, n, _, _, hl, hxl, hf⟩ := DataW.trod_struct Tryz.underlying97 h
  rw [c_pipe] at hl
  match xs, hxl, cs, hl with
  | [y0, y1], _, [v0, v1], _ =>
    have g0 := hf 0 _ rfl
    have g1 := hf 1 _ rfl
    simp [c_int, c_ints] at g0 g1
    obtain ⟨n0, e0, _, _⟩ := DataW.trod_int Tryz.underlying3 g0
    simp at e0
    subst e0
    obtain ⟨l, hl⟩ := ints_cell g1
    exact ⟨⟨n0, l⟩, v1, rfl, hl⟩
theorem trod_file (fuel : Nat) (cs : List Value) (x : DataW H × List MemPlace) (h : DataW.trod enc Tryz.prog w base spare held fuel 99 cs = some x) : ∃ o, APi w cs o := by
  obtain ⟨xs, n, _, _, hl, hxl, hf⟩ := DataW.trod_struct Tryz.underlying99 h
  rw [c_file] at hl
  match xs, hxl, cs, hl with
  | [y0, y1], _, [v0, v1], _ =>
    have g0 := hf 0 _ rfl
    have g1 := hf 1 _ rfl
    simp [c_int, c_ints] at g0 g1
    obtain ⟨n0, e0, _, _⟩ := DataW.trod_int Tryz.underlying3 g0
    simp at e0
    subst e0
    obtain ⟨l, hl⟩ := ints_cell g1
    exact ⟨⟨n0, l⟩, v1, rfl, hl⟩
theorem trod_proc (fuel : Nat) (cs : List Value) (x : DataW H × List MemPlace) (h : DataW.trod enc Tryz.prog w base spare held fuel 95 cs = some x) : ∃ o, APr w cs o := by
  obtain ⟨xs, n, _, _, hl, hxl, hf⟩ := DataW.trod_struct Tryz.underlying95 h
  rw [c_proc] at hl
  match xs, hxl, cs, hl with
  | [y0, y1, y2, y3, y4, y5, y6, y7, y8], _, [v0, v1, v2, v3, v4, v5, v6, v7, v8, v9], _ =>
    have g0 := hf 0 _ rfl
    have g1 := hf 1 _ rfl
    have g2 := hf 2 _ rfl
    have g3 := hf 3 _ rfl
    have g4 := hf 4 _ rfl
    have g5 := hf 5 _ rfl
    have g6 := hf 6 _ rfl
    have g7 := hf 7 _ rfl
    have g8 := hf 8 _ rfl
    simp [c_int, c_ints, c_cpu] at g0 g1 g2 g3 g4 g5 g6 g7 g8
    obtain ⟨n0, e0, _, _⟩ := DataW.trod_int Tryz.underlying3 g0
    obtain ⟨n1, e1, _, _⟩ := DataW.trod_int Tryz.underlying3 g1
    obtain ⟨n2, e2, _, _⟩ := DataW.trod_int Tryz.underlying3 g2
    obtain ⟨n3, e3, _, _⟩ := DataW.trod_int Tryz.underlying3 g3
    obtain ⟨n8, e8, _, _⟩ := DataW.trod_int Tryz.underlying3 g7
    obtain ⟨n9, e9, _, _⟩ := DataW.trod_int Tryz.underlying3 g8
    obtain ⟨zs, n', _, _, hl', hxl', hf'⟩ := DataW.trod_struct Tryz.underlying93 g4
    match zs, hxl' with
    | [z0, z1], _ =>
      have k0 := hf' 0 _ rfl
      have k1 := hf' 1 _ rfl
      simp [c_int, c_ints] at k0 k1
      obtain ⟨n4, e4, _, _⟩ := DataW.trod_int Tryz.underlying3 k0
      simp at e0 e1 e2 e3 e4 e8 e9
      subst e0 e1 e2 e3 e4 e8 e9
      obtain ⟨l1, h1⟩ := ints_cell k1
      obtain ⟨l2, h2⟩ := ints_cell g5
      obtain ⟨l3, h3⟩ := ints_cell g6
      exact ⟨⟨n0, n1, n2, n3, n4, l1, l2, l3, n8, n9⟩, v5, v6, v7, rfl, h1, h2, h3⟩
/-- All there is, as it came in. -/
structure ArgUn (w : World) (s : Vs) (u : Un) : Prop where
  progs : ArgProgs w s.progs u.progs
  procs : ArgRow 10 APr w s.procs u.procs
  opens : ArgRow 5 AOp w s.opens u.opens
  pipes : ArgRow 2 APi w s.pipes u.pipes
  files : ArgRow 2 APi w s.files u.files
  ready : ToI w s.ready u.ready
  out : ToI w s.out u.out
def IsUnix (w : World) (v : Value) : Prop := ∃ u s, v = u.v s ∧ ArgUn w s u
theorem open_unix {v : Value} {d : DataW H} {ps : List MemPlace} {b0 : Nat} {r : Reach} (hval : Value.okWide Tryz.prog w r b0 29 v) (h : DataW.Trod enc Tryz.prog w base spare held 29 v d ps) : IsUnix w v := by
  obtain ⟨cs, rfl, hcs⟩ := okWide_struct Tryz.underlying29 hval
  obtain ⟨fuel, hf⟩ := h
  obtain ⟨xs, n, rfl, hx, hl, hxl, hf⟩ := DataW.trod_struct Tryz.underlying29 hf
  have hc : Tryz.prog.cellsOf 29 = 9 := by kernel_rfl
  have cc1 : Tryz.prog.cellsOf 22 = 1 := by kernel_rfl
  have cc2 : Tryz.prog.cellsOf 23 = 1 := by kernel_rfl
  have cc3 : Tryz.prog.cellsOf 24 = 1 := by kernel_rfl
  have cc4 : Tryz.prog.cellsOf 25 = 1 := by kernel_rfl
  have cc5 : Tryz.prog.cellsOf 26 = 1 := by kernel_rfl
  rw [hc] at hl
  simp only [Value.cells] at hf hl
  have hcl : cs.toList.length = 9 := by simpa using hl
  match xs, hxl, hcc : cs.toList, hcl with
  | [y0, y1, y2, y3, y4, y5, y6, y7, y8], _, [v0, v1, v2, v3, v4, v5, v6, v7, v8], _ =>
    rw [hcc] at hf
    have g0 := hf 0 _ rfl
    have g1 := hf 1 _ rfl
    have g2 := hf 2 _ rfl
    have g3 := hf 3 _ rfl
    have g4 := hf 4 _ rfl
    have g5 := hf 5 _ rfl
    have g6 := hf 6 _ rfl
    have g7 := hf 7 _ rfl
    have g8 := hf 8 _ rfl
    simp [c_int, c_ints, cc1, cc2, cc3, cc4, cc5] at g0 g1 g2 g3 g4 g5 g6 g7 g8
    obtain ⟨n0, e0, _, _⟩ := DataW.trod_int Tryz.underlying3 g0
    obtain ⟨n1, e1, _, _⟩ := DataW.trod_int Tryz.underlying3 g1
    simp at e0 e1
    subst e0 e1
    obtain ⟨L1, h1⟩ := args_of (progs_of g2)
    obtain ⟨L2, h2⟩ := arg_row Tryz.underlying23 c_proc trod_proc g3
    obtain ⟨L3, h3⟩ := arg_row Tryz.underlying24 c_open trod_open g4
    obtain ⟨L4, h4⟩ := arg_row Tryz.underlying25 c_pipe trod_pipe g5
    obtain ⟨L5, h5⟩ := arg_row Tryz.underlying26 c_file trod_file g6
    obtain ⟨L6, h6⟩ := ints_cell g7
    obtain ⟨L7, h7⟩ := ints_cell g8
    refine ⟨⟨n0, n1, L1, L2, L3, L4, L5, L6, L7⟩, ⟨v2, v3, v4, v5, v6, v7, v8⟩, ?_, ⟨h1, h2, h3, h4, h5, h6, h7⟩⟩
    unfold Un.v
    congr 1
    exact Array.toList_inj.1 hcc
end
end Go.Proofs.YtighnfeifkgajaaGreat.ArgU
