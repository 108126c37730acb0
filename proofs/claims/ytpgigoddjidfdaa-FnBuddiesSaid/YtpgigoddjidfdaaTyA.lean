/- Whatever a type is made of: its cells, lists that are owned, lists that came in, copies under way, marks by position, what the law counts. Condition: none. -/
import Derived.Test.YtpgigoddjidfdaaRowA
import Derived.Deep.Slices
import Derived.ChangeMaps5
import Derived.ChangeSlices
import Derived.Deep.RegionWith
import Derived.BigRegion
namespace Go.Proofs.Ytpgigoddjidfdaa.TyA
open Go.RowKit Go.ChangeShapes Go.WideShapes Go.Deep Num RowC
set_option maxRecDepth 100000
set_option linter.unusedVariables false
set_option linter.unusedSimpArgs false

/-- A number, a truth, a text: as a cell. -/
def cI (n : Int) : Value := .int .i64 n
def cB (b : Bool) : Value := .bool b
def cS (s : ByteArray) : Value := .string s
/-- A number of 64 bits. -/
def Rng (n : Int) : Prop := -9223372036854775808 ≤ n ∧ n ≤ 9223372036854775807
theorem rng_wf {n : Int} (h : (Lit.int .i64 n).wf = true) : Rng n := by
  have h' : IntKind.i64.min ≤ n ∧ n ≤ IntKind.i64.max := by simpa [Lit.wf] using h
  have e1 : IntKind.i64.min = -9223372036854775808 := by decide
  have e2 : IntKind.i64.max = 9223372036854775807 := by decide
  rw [e1, e2] at h'
  exact h'
theorem ret_int {k : IntKind} {a b : Int} (h : a = b) : Ending.returned (.int k a) = .returned (.int k b) := by rw [h]
theorem add_block (x : Addr) (n : Nat) : (x.add n).block = x.block := by unfold Addr.add; split <;> rfl
theorem heap_at (X : World) (o : Obj) (g : Nat) (h : g = X.heap.size) : (X.alloc o).heap[g]? = some o := by subst h; exact Array.getElem?_push_size
theorem set1 (z : List Value) (k : Nat) (o : Value) (h : k + 1 ≤ z.length) : (z.set k o).take (k + 1) = z.take k ++ [o] := by
  rw [List.take_succ_eq_append_getElem (by simp; omega), List.take_set_of_le (by omega)]
  simp
theorem blk_nodup (v : Value) : (blk v).Nodup := by unfold blk; split <;> simp

/-- A list in memory, by its value: what is said of it hangs on its blocks alone. -/
structure GoodV {α : Type} (O : World → Value → List α → List Nat → Prop) : Prop where
  keep : ∀ {w w' : World} {v : Value} {x : List α} {b bs : List Nat}, O w v x b → Keep bs w w' → (∀ y ∈ b, y ∉ bs) → O w' v x b
  lt : ∀ {w : World} {v : Value} {x : List α} {b : List Nat}, O w v x b → ∀ y ∈ b, y < w.heap.size
  slice : ∀ {w : World} {v : Value} {x : List α} {b : List Nat}, O w v x b → ∃ a c, v = .slice a x.length c
theorem GoodV.below {α : Type} {O : World → Value → List α → List Nat → Prop} (g : GoodV O) {w w' : World} {v : Value} {x : List α} {b : List Nat} (h : O w v x b) (hb : Below w.heap.size w w') : O w' v x b := g.keep h (Keep.of_below [] hb) (by simp)
/-- Plain cells, owned. -/
def SO {α : Type} (e : Nat) (c : α → Value) (w : World) (v : Value) (l : List α) (b : List Nat) : Prop := w.ownsRow 0 e 1 v l.length (l.map c) ∧ b = blk v
theorem good_so {α : Type} (e : Nat) (c : α → Value) : GoodV (SO e c) :=
  ⟨fun h hk hd => ⟨own_kept h.1 hk (fun y hy => hd y (by rw [h.2]; exact hy)), h.2⟩, fun h y hy => (own_lt h.1 y (by rw [← h.2]; exact hy)).2, fun h => own_slice h.1⟩
theorem gvRow {α : Type} {P : World → List Value → α → List Nat → Prop} (e k : Nat) (g : RowC.Good P) : GoodV (Row e k P) := ⟨fun h hk hd => h.keep g hk hd, fun h => h.lt g, fun h => h.slice⟩
/-- A list as an element: one cell. -/
def PE {α : Type} (O : World → Value → List α → List Nat → Prop) (w : World) (cs : List Value) (l : List α) (b : List Nat) : Prop := ∃ v, cs = [v] ∧ O w v l b
theorem good_pe {α : Type} {O : World → Value → List α → List Nat → Prop} (g : GoodV O) : RowC.Good (PE O) := ⟨fun ⟨v, h1, h2⟩ hk hd => ⟨v, h1, g.keep h2 hk hd⟩, fun ⟨v, h1, h2⟩ => g.lt h2⟩
theorem so_cases {α : Type} {e : Nat} {c : α → Value} {w : World} {v : Value} {l : List α} {b : List Nat} (h : SO e c w v l b) : (v = .slice none 0 0 ∧ l = [] ∧ b = []) ∨
    ∃ g cap, v = .slice (some ⟨g, 0, none⟩) l.length cap ∧ b = [g] ∧ g < w.heap.size ∧ w.ownsRow 0 e 1 (.slice (some ⟨g, 0, none⟩) l.length cap) l.length (l.map c) ∧ ∀ i x, l[i]? = some x → w.cell? ⟨g, i, none⟩ = some (c x) := by
  obtain ⟨h1, rfl⟩ := h
  rcases h1.2 with ⟨rfl, h0⟩ | ⟨g, cap, cur, rfl, _, hg, _⟩
  · exact .inl ⟨rfl, List.eq_nil_of_length_eq_zero h0, rfl⟩
  · refine .inr ⟨g, cap, rfl, rfl, (Array.getElem?_eq_some_iff.1 hg).1, h1, fun i x hx => ?_⟩
    have hi := (List.getElem?_eq_some_iff.1 hx).1
    rw [h1.cellAt i (by omega), List.getElem?_map, hx]
    rfl

/-- What is said of an element that came in stays. -/
def Stays {α : Type} (E : World → List Value → α → Prop) : Prop := ∀ {w w' : World} {cs : List Value} {x : α}, E w cs x → Below w.heap.size w w' → E w' cs x
/-- A list of elements of k cells each that came in. -/
def ArgRow {α : Type} (k : Nat) (E : World → List Value → α → Prop) (w : World) (v : Value) (L : List α) : Prop := (v = .slice none 0 0 ∧ L = []) ∨
  ∃ (x : Addr) (cap : Nat) (css : List (List Value)), v = .slice (some x) L.length cap ∧ css.length = L.length ∧ L.length ≤ cap ∧ cap ≤ maxLen ∧ ∀ i cs l, css[i]? = some cs → L[i]? = some l → (∀ j u, cs[j]? = some u → w.cell? (x.add (i * k + j)) = some u) ∧ E w cs l
theorem ArgRow.below {α : Type} {k : Nat} {E : World → List Value → α → Prop} (hE : Stays E) {w w' : World} {v : Value} {L : List α} (h : ArgRow k E w v L) (hb : Below w.heap.size w w') : ArgRow k E w' v L := by
  rcases h with h | ⟨x, cap, css, h1, h2, h3, h4, h5⟩
  · exact .inl h
  · refine .inr ⟨x, cap, css, h1, h2, h3, h4, fun i cs l hu hl => ?_⟩
    obtain ⟨a, b⟩ := h5 i cs l hu hl
    exact ⟨fun j u hj => (hb.cell (World.block_lt_of_cell? w _ (a j u hj))).trans (a j u hj), hE b hb⟩
theorem ArgRow.slice {α : Type} {k : Nat} {E : World → List Value → α → Prop} {w : World} {v : Value} {L : List α} (h : ArgRow k E w v L) : (∃ a c, v = .slice a L.length c) ∧ L.length ≤ maxLen := by
  rcases h with ⟨rfl, rfl⟩ | ⟨x, cap, css, rfl, _, h3, h4, _⟩
  · exact ⟨⟨_, _, rfl⟩, by simp⟩
  · exact ⟨⟨_, _, rfl⟩, by omega⟩
theorem ArgRow.each {α : Type} {k : Nat} {E : World → List Value → α → Prop} {R : α → Prop} {w : World} {v : Value} {L : List α} (h : ArgRow k E w v L) (hR : ∀ cs x, E w cs x → R x) : ∀ (i : Nat) (x : α), L[i]? = some x → R x := by
  rcases h with ⟨rfl, rfl⟩ | ⟨x, cap, css, rfl, h2, h3, h4, h5⟩
  · intro i x hx; simp at hx
  · intro i x hx
    have hi := (List.getElem?_eq_some_iff.1 hx).1
    exact hR _ _ (h5 i css[i] x (List.getElem?_eq_getElem (by omega)) hx).2
/-- A list as an element that came in: one cell. -/
def AE {α : Type} (F : World → Value → List α → Prop) (w : World) (cs : List Value) (l : List α) : Prop := ∃ v, cs = [v] ∧ F w v l
theorem stay_ae {α : Type} {F : World → Value → List α → Prop} (h : ∀ (w w' : World) (v : Value) (x : List α), F w v x → Below w.heap.size w w' → F w' v x) : Stays (AE F) := fun ⟨v, h1, h2⟩ hb => ⟨v, h1, h _ _ _ _ h2 hb⟩
/-- Plain cells that came in. -/
def AI (w : World) (cs : List Value) (n : Int) : Prop := cs = [cI n] ∧ Rng n
def AB (w : World) (cs : List Value) (b : Bool) : Prop := cs = [cB b]
def AS (w : World) (cs : List Value) (s : ByteArray) : Prop := cs = [cS s] ∧ s.size ≤ maxLen
theorem stay_ai : Stays AI := fun h _ => h
theorem stay_ab : Stays AB := fun h _ => h
theorem stay_as : Stays AS := fun h _ => h
theorem arg_scal {α : Type} {E : World → List Value → α → Prop} (c : α → Value) (hE : ∀ w cs x, E w cs x → cs = [c x]) {w : World} {v : Value} {l : List α} (h : ArgRow 1 E w v l) : (v = .slice none 0 0 ∧ l = []) ∨
    ∃ (x : Addr) (cap : Nat), v = .slice (some x) l.length cap ∧ l.length ≤ cap ∧ cap ≤ maxLen ∧ ∀ i u, l[i]? = some u → w.cell? (x.add i) = some (c u) := by
  rcases h with h | ⟨x, cap, css, h1, h2, h3, h4, h5⟩
  · exact .inl h
  · refine .inr ⟨x, cap, h1, h3, h4, fun i u hu => ?_⟩
    have hi := (List.getElem?_eq_some_iff.1 hu).1
    obtain ⟨a, b⟩ := h5 i css[i] u (List.getElem?_eq_getElem (by omega)) hu
    have e := hE _ _ _ b
    have := a 0 (c u) (by rw [e]; rfl)
    simpa using this
section
variable {H : Type} {enc : TypeId × Value → H} {w : World} {base : Nat} {spare : Nat → Bool} {held : Bool}
theorem arg_row {α : Type} [Inhabited α] {E : World → List Value → α → Prop} {t e : TypeId} {k : Nat} (ht : Try.prog.underlying t = some (.slice e)) (hc : Try.prog.cellsOf e = k)
    (hel : ∀ (fuel : Nat) (cs : List Value) (x : DataW H × List MemPlace), DataW.trod enc Try.prog w base spare held fuel e cs = some x → ∃ a, E w cs a)
    {fuel : Nat} {u : Value} {x : DataW H × List MemPlace} (h : DataW.trod enc Try.prog w base spare held fuel t [u] = some x) : ∃ L, ArgRow k E w u L := by
  rcases open_slice ht h with ⟨hcs, _⟩ | ⟨x, l, c, m, n, D, Pl, hcs, _, hl, hm, hmm, _, hx⟩
  · simp at hcs
    exact ⟨[], .inl ⟨hcs, rfl⟩⟩
  · simp at hcs
    subst hcs
    have hlm : l ≤ m := by rw [hmm]; split <;> omega
    have each : ∀ i, i < l → ∃ q : List Value × α, (∀ j u, q.1[j]? = some u → w.cell? (x.add (i * k + j)) = some u) ∧ E w q.1 q.2 := by
      intro i hi
      obtain ⟨cs', h1, h2⟩ := hx i (by omega)
      obtain ⟨a, ha⟩ := hel _ _ _ h2
      rw [hc] at h1
      obtain ⟨_, hlen, hcc⟩ := World.cells?_some h1
      refine ⟨(cs', a), fun j u hj => ?_, ha⟩
      have hjk : j < k := by
        have := (List.getElem?_eq_some_iff.1 hj).1
        simp at this
        omega
      rw [← add_add, hcc j hjk, hj]
    obtain ⟨f, hf⟩ := choose_lt each
    refine ⟨(List.range l).map fun i => (f i).2, .inr ⟨x, c, (List.range l).map fun i => (f i).1, by simp, by simp, by simpa using hl, hm, fun i cs a hcs ha => ?_⟩⟩
    rw [List.getElem?_map] at hcs ha
    obtain ⟨i', hi', rfl⟩ := Option.map_eq_some_iff.1 hcs
    obtain ⟨hi1, hi2⟩ := List.getElem?_eq_some_iff.1 hi'
    simp at hi1 hi2
    subst hi2
    rw [hi'] at ha
    simp at ha
    subst ha
    exact hf i hi1
/-- A list's own cell. -/
theorem trod_one {fuel : Nat} {t e : TypeId} {cs : List Value} {x : DataW H × List MemPlace} (ht : Try.prog.underlying t = some (.slice e)) (h : DataW.trod enc Try.prog w base spare held fuel t cs = some x) : ∃ u, cs = [u] := by
  rcases open_slice ht h with ⟨hcs, _⟩ | ⟨x, l, c, m, n, D, Pl, hcs, _⟩
  · exact ⟨_, hcs⟩
  · exact ⟨_, hcs⟩
/-- Plain arguments. -/
def IsInt (w : World) (v : Value) : Prop := ∃ n, v = .int .i64 n ∧ Rng n
def IsBool (w : World) (v : Value) : Prop := ∃ b, v = .bool b
def IsString (w : World) (v : Value) : Prop := ∃ s : ByteArray, v = .string s ∧ s.size ≤ maxLen
theorem open_Int {v : Value} {d : DataW H} {ps : List MemPlace} {b0 : Nat} {r : Reach} (hval : Value.okWide Try.prog w r b0 3 v) (h : DataW.Trod enc Try.prog w base spare held 3 v d ps) : IsInt w v := by
  obtain ⟨x, rfl, rfl, rfl, wx⟩ := open_int Try.underlying3 hval h
  exact ⟨x, rfl, rng_wf wx⟩
theorem open_Bool {v : Value} {d : DataW H} {ps : List MemPlace} {b0 : Nat} {r : Reach} (hval : Value.okWide Try.prog w r b0 4 v) (h : DataW.Trod enc Try.prog w base spare held 4 v d ps) : IsBool w v := by
  obtain ⟨x, rfl, _⟩ := open_bool Try.underlying4 hval h
  exact ⟨x, rfl⟩
theorem open_String {v : Value} {d : DataW H} {ps : List MemPlace} {b0 : Nat} {r : Reach} (hval : Value.okWide Try.prog w r b0 9 v) (h : DataW.Trod enc Try.prog w base spare held 9 v d ps) : IsString w v := by
  obtain ⟨x, rfl, _, _, hs⟩ := Go.ChangeMaps.open_string Try.underlying9 hval h
  exact ⟨x, rfl, hs⟩
end

/-- Cells written one behind the other. -/
def setMany : List Value → Nat → List Value → List Value
  | z, _, [] => z
  | z, o, u :: us => setMany (z.set o u) (o + 1) us
theorem setMany_length : ∀ (us z : List Value) (o : Nat), (setMany z o us).length = z.length
  | [], _, _ => rfl
  | u :: us, z, o => by rw [setMany, setMany_length us]; simp
theorem setMany_take : ∀ (us z : List Value) (o n : Nat), n ≤ o → (setMany z o us).take n = z.take n
  | [], _, _, _, _ => rfl
  | u :: us, z, o, n, h => by rw [setMany, setMany_take us _ _ n (by omega), List.take_set_of_le h]
theorem setMany_mid : ∀ (us z : List Value) (o : Nat), o + us.length ≤ z.length → ((setMany z o us).drop o).take us.length = us
  | [], _, _, _ => by simp
  | u :: us, z, o, h => by
    simp at h
    rw [setMany]
    have ih := setMany_mid us (z.set o u) (o + 1) (by simp; omega)
    have ht := setMany_take us (z.set o u) (o + 1) (o + 1) (Nat.le_refl _)
    have hl : (setMany (z.set o u) (o + 1) us).length = z.length := by rw [setMany_length]; simp
    have hg : (setMany (z.set o u) (o + 1) us)[o]? = some u := by
      have := congrArg (fun l => l[o]?) ht
      simp only [List.getElem?_take_of_lt (Nat.lt_succ_self o)] at this
      rw [this, List.getElem?_set_self (by omega)]
    obtain ⟨h1, h2⟩ := List.getElem?_eq_some_iff.1 hg
    rw [List.drop_eq_getElem_cons h1, h2, List.length_cons, List.take_succ_cons, ih]
/-- The first j elements are laid, from block g on. -/
structure PreG {α : Type} (P : World → List Value → α → List Nat → Prop) (k g : Nat) (L : List α) (z : List Value) (j : Nat) (bss : List (List Nat)) (wr : World) : Prop where
  len : bss.length = j
  at_ : ∀ i x b, i < j → L[i]? = some x → bss[i]? = some b → P wr ((z.drop (i * k)).take k) x b
  nodup : bss.flatten.Nodup
  above : ∀ y ∈ bss.flatten, g < y
  lt : ∀ y ∈ bss.flatten, y < wr.heap.size
section
variable {α : Type} {P : World → List Value → α → List Nat → Prop} {k g : Nat} {L : List α} {z : List Value} {j : Nat} {bss : List (List Nat)} {wr w2 w3 : World}
theorem PreG.start (P : World → List Value → α → List Nat → Prop) (k g : Nat) (L : List α) (z : List Value) (wr : World) : PreG P k g L z 0 [] wr := ⟨rfl, fun i x b h => by omega, by simp, by simp, by simp⟩
theorem PreG.step (hP : RowC.Good P) {x : α} {cs : List Value} {b : List Nat} (h : PreG P k g L z j bss wr) (hj : j * k + k ≤ z.length) (hk : cs.length = k) (hg : g < wr.heap.size) (hx : L[j]? = some x) (hb : Below wr.heap.size wr w2) (hp : P w2 cs x b) (hn : b.Nodup) (hge : ∀ y ∈ b, wr.heap.size ≤ y) (hk3 : Keep [g] w2 w3) (hs3 : w3.heap.size = w2.heap.size) :
    PreG P k g L (setMany z (j * k) cs) (j + 1) (bss ++ [b]) w3 := by
  have hlb := hP.lt hp
  have hk2 : Keep [g] wr w3 := (Keep.of_below [g] hb).trans hk3
  refine ⟨by simp [h.len], fun i x' b' hi hL hbs => ?_, ?_, ?_, ?_⟩
  · by_cases hij : i = j
    · subst hij
      rw [hx] at hL
      rw [List.getElem?_append_right (by rw [h.len]; exact Nat.le_refl _), h.len] at hbs
      simp at hL hbs
      subst hL hbs
      have e := setMany_mid cs z (i * k) (by omega)
      rw [hk] at e
      rw [e]
      exact hP.keep hp hk3 (fun y hy hyg => by have := hge y hy; simp at hyg; omega)
    · have hlt : i < j := by omega
      rw [List.getElem?_append_left (by rw [h.len]; omega)] at hbs
      have hik : i * k + k ≤ j * k := by rw [← Nat.succ_mul]; exact Nat.mul_le_mul_right k hlt
      have e : ((setMany z (j * k) cs).drop (i * k)).take k = (z.drop (i * k)).take k := by
        have e1 := setMany_take cs z (j * k) (i * k + k) hik
        have e2 := congrArg (List.drop (i * k)) e1
        rw [List.drop_take, List.drop_take, show i * k + k - i * k = k by omega] at e2
        exact e2
      rw [e]
      exact hP.keep (h.at_ i x' b' hlt hL hbs) hk2 (fun y hy hyg => by
        have := h.above y (mem_flat hbs hy)
        simp at hyg
        omega)
  · rw [List.flatten_append]
    refine List.nodup_append.2 ⟨h.nodup, by simpa using hn, fun a ha b' hb' => ?_⟩
    simp at hb'
    have := hge b' hb'
    have := h.lt a ha
    omega
  · intro y hy
    rw [List.flatten_append] at hy
    rcases List.mem_append.1 hy with hy | hy
    · exact h.above y hy
    · simp at hy
      have := hge y hy
      omega
  · intro y hy
    rw [hs3]
    rw [List.flatten_append] at hy
    rcases List.mem_append.1 hy with hy | hy
    · exact Nat.lt_of_lt_of_le (h.lt y hy) hb.size
    · simp at hy
      exact hlb y hy
theorem PreG.done {e B : Nat} (h : PreG P k g L z L.length bss wr) (hown : wr.ownsRow B e k (.slice (some ⟨g, 0, none⟩) L.length L.length) L.length z) (hB : B ≤ g) :
    ∃ bs, Row e k P wr (.slice (some ⟨g, 0, none⟩) L.length L.length) L bs ∧ bs.Nodup ∧ ∀ b ∈ bs, B ≤ b := by
  refine ⟨_, ⟨z, bss, own_zero hown, h.len, rfl, fun i l b hl hb => h.at_ i l b (List.getElem?_eq_some_iff.1 hl).1 hl hb⟩, ?_, ?_⟩
  · rw [blk_some]
    refine List.nodup_append.2 ⟨by simp, h.nodup, fun a ha b hb => ?_⟩
    simp at ha
    have := h.above b hb
    omega
  · intro b hb
    rw [blk_some] at hb
    rcases List.mem_append.1 hb with hb | hb
    · simp at hb; omega
    · have := h.above b hb; omega
end


section
variable {α : Type} (wt : α → Nat)
/-- What the first elements take. -/
def sumG (l : List α) : Nat := (l.map wt).sum
def offG (l : List α) (k i : Nat) : Nat := k + sumG wt (l.take i)
theorem sumG_step (l : List α) (i : Nat) (x : α) (h : l[i]? = some x) : sumG wt (l.take (i + 1)) = sumG wt (l.take i) + wt x := by
  obtain ⟨hi, rfl⟩ := List.getElem?_eq_some_iff.1 h
  unfold sumG
  rw [List.take_succ_eq_append_getElem hi, List.map_append, List.sum_append]
  simp only [List.map_cons, List.map_nil, List.sum_cons, List.sum_nil, Nat.add_zero]
theorem sumG_take (l : List α) (i : Nat) : sumG wt (l.take i) ≤ sumG wt l := by
  have : sumG wt l = sumG wt (l.take i) + sumG wt (l.drop i) := by
    unfold sumG
    rw [← List.sum_append, ← List.map_append, List.take_append_drop]
  omega
theorem sumG_mem (l : List α) (i : Nat) (x : α) (h : l[i]? = some x) : sumG wt (l.take i) + wt x ≤ sumG wt l := by
  rw [← sumG_step wt l i x h]; exact sumG_take wt l (i + 1)
theorem offG_zero (l : List α) (k : Nat) : offG wt l k 0 = k := by simp [offG, sumG]
theorem offG_all (l : List α) (k : Nat) : offG wt l k l.length = k + sumG wt l := by unfold offG; rw [List.take_length]
theorem offG_step (l : List α) (k i : Nat) (x : α) (h : l[i]? = some x) : offG wt l k (i + 1) = offG wt l k i + wt x := by
  unfold offG
  rw [sumG_step wt l i x h]; omega
theorem offG_le (l : List α) (k i : Nat) : offG wt l k i ≤ k + sumG wt l := by unfold offG; have := sumG_take wt l i; omega
variable [Inhabited α] (mk : Nat → α → α)
def markedG (l : List α) (k : Nat) : List α := (List.range l.length).map fun i => mk (offG wt l k i) (l.getD i default)
def partlyG (l : List α) (k j : Nat) : List α := (markedG wt mk l k).take j ++ l.drop j
theorem markedG_length (l : List α) (k : Nat) : (markedG wt mk l k).length = l.length := by simp [markedG]
theorem markedG_get (l : List α) (k i : Nat) (x : α) (h : l[i]? = some x) : (markedG wt mk l k)[i]? = some (mk (offG wt l k i) x) := by
  have hi := (List.getElem?_eq_some_iff.1 h).1
  unfold markedG
  rw [List.getElem?_map, List.getElem?_range hi]
  simp [List.getD_eq_getElem?_getD, h]
theorem partlyG_zero (l : List α) (k : Nat) : partlyG wt mk l k 0 = l := by simp [partlyG]
theorem partlyG_all (l : List α) (k : Nat) : partlyG wt mk l k l.length = markedG wt mk l k := by
  unfold partlyG
  rw [List.take_of_length_le (by rw [markedG_length]; exact Nat.le_refl _)]
  simp
theorem partlyG_length (l : List α) (k j : Nat) (h : j ≤ l.length) : (partlyG wt mk l k j).length = l.length := by
  unfold partlyG
  simp [markedG_length]
  omega
theorem partlyG_get (l : List α) (k j : Nat) (h : j < l.length) : (partlyG wt mk l k j)[j]? = l[j]? := by
  unfold partlyG
  rw [List.getElem?_append_right (by simp; omega)]
  simp [markedG_length, Nat.min_eq_left (Nat.le_of_lt h)]
theorem partlyG_set (l : List α) (k j : Nat) (x : α) (h : l[j]? = some x) : (partlyG wt mk l k j).set j (mk (offG wt l k j) x) = partlyG wt mk l k (j + 1) := by
  have hj := (List.getElem?_eq_some_iff.1 h).1
  have hm := markedG_get wt mk l k j x h
  obtain ⟨h1, h2⟩ := List.getElem?_eq_some_iff.1 hm
  have e : ∀ x : α, (l.drop j).set 0 x = x :: l.drop (j + 1) := fun x => by rw [List.drop_eq_getElem_cons hj]; rfl
  have hi : j - ((markedG wt mk l k).take j).length = 0 := by simp [markedG_length]; omega
  unfold partlyG
  rw [List.set_append_right _ _ (by simp; omega), hi, e, List.take_succ_eq_append_getElem h1, h2, List.append_assoc]
  rfl
end

section
variable {α : Type} {e k : Nat} {P : World → List Value → α → List Nat → Prop} {w w' : World} {l : List α} {bs b : List Nat} {i g n cap : Nat} {cs : List Value}
theorem out_notin (hn : bs.Nodup) (h : Out e k P w (.slice (some ⟨g, 0, none⟩) n cap) l bs i cs b) : g ∉ b := by
  obtain ⟨xs, bss, h1, h2, rfl, hi, hb, _⟩ := h
  obtain ⟨_, _, hn3⟩ := List.nodup_append.1 hn
  exact fun hg => hn3 g (by rw [blk_some]; simp) g (mem_flat hb hg) rfl
theorem out_in (h : Out e k P w (.slice (some ⟨g, 0, none⟩) n cap) l bs i cs b) : g ∈ bs := by
  obtain ⟨xs, bss, h1, h2, rfl, _⟩ := h
  rw [blk_some]; simp
theorem out_nodup {v : Value} (hn : bs.Nodup) (h : Out e k P w v l bs i cs b) : b.Nodup := by
  obtain ⟨xs, bss, h1, h2, rfl, hi, hb, _⟩ := h
  obtain ⟨_, hn2, _⟩ := List.nodup_append.1 hn
  exact (List.pairwise_flatten.1 hn2).1 b (List.mem_of_getElem? hb)
end

/-- What is left behind n of them. -/
def szR (left : Int) (n : Nat) : Int := if left < n then -1 else left - n
theorem szR_no {left : Int} {n : Nat} (h : left < n) : szR left n = -1 := if_pos h
theorem szR_yes {left : Int} {n : Nat} (h : ¬ left < n) : szR left n = left - n := if_neg h
section
variable {α : Type} (f : α → Nat)
def sumW (l : List α) : Nat := (l.map f).sum
theorem sumW_step (l : List α) (i : Nat) (x : α) (h : l[i]? = some x) : sumW f (l.take (i + 1)) = sumW f (l.take i) + f x := by
  obtain ⟨hi, rfl⟩ := List.getElem?_eq_some_iff.1 h
  unfold sumW
  rw [List.take_succ_eq_append_getElem hi, List.map_append, List.sum_append]
  simp only [List.map_cons, List.map_nil, List.sum_cons, List.sum_nil, Nat.add_zero]
theorem sumW_take (l : List α) (i : Nat) : sumW f (l.take i) ≤ sumW f l := by
  have : sumW f l = sumW f (l.take i) + sumW f (l.drop i) := by
    unfold sumW
    rw [← List.sum_append, ← List.map_append, List.take_append_drop]
  omega
theorem sumW_mem (l : List α) (i : Nat) (x : α) (h : l[i]? = some x) : sumW f (l.take i) + f x ≤ sumW f l := by
  rw [← sumW_step f l i x h]; exact sumW_take f l (i + 1)
end
theorem cell_of_below {W W' : World} {cs : List Value} {g : Nat} (h : ∀ j u, cs[j]? = some u → W.cell? ⟨g, j, none⟩ = some u) (hg : g < W.heap.size) (hb : Below W.heap.size W W') : ∀ j u, cs[j]? = some u → W'.cell? ⟨g, j, none⟩ = some u :=
  fun j u hu => (hb.cell (p := ⟨g, j, none⟩) hg).trans (h j u hu)
theorem cell_box (w : World) (cs : List Value) (t : TypeId) (g : Nat) (hg : g = w.heap.size) : ∀ j u, cs[j]? = some u → (w.alloc (.cells cs.toArray t)).cell? ⟨g, j, none⟩ = some u := by
  intro j u hu
  subst hg
  rw [World.cell?_alloc_at _ _ _ _ rfl]
  simpa using hu

/-- Two boxes, one behind the other. -/
structure Two (W : World) (g : Nat) (cs cs' : List Value) : Prop where
  a : ∀ j u, cs[j]? = some u → W.cell? ⟨g, j, none⟩ = some u
  b : ∀ j u, cs'[j]? = some u → W.cell? ⟨g + 1, j, none⟩ = some u
  lt : g + 1 < W.heap.size
theorem Two.new (w : World) (cs cs' : List Value) (t t' : TypeId) : Two ((w.alloc (.cells cs.toArray t)).alloc (.cells cs'.toArray t')) w.heap.size cs cs' := by
  refine ⟨fun j u hu => ?_, fun j u hu => cell_box _ cs' t' _ (by simp) j u hu, by simp⟩
  rw [World.cell?_alloc_lt _ _ _ (by simp)]
  exact cell_box w cs t _ rfl j u hu
theorem Two.below {W W' : World} {g : Nat} {cs cs' : List Value} (h : Two W g cs cs') (hb : Below W.heap.size W W') : Two W' g cs cs' :=
  ⟨cell_of_below h.a (by have := h.lt; omega) hb, cell_of_below h.b h.lt hb, Nat.lt_of_lt_of_le h.lt hb.size⟩

/-- A box. -/
structure One (W : World) (g : Nat) (cs : List Value) : Prop where
  a : ∀ j u, cs[j]? = some u → W.cell? ⟨g, j, none⟩ = some u
  lt : g < W.heap.size
theorem One.new (w : World) (cs : List Value) (t : TypeId) : One (w.alloc (.cells cs.toArray t)) w.heap.size cs := ⟨cell_box w cs t _ rfl, by simp⟩
theorem boxN (w : World) (cs : List Value) (t : TypeId) : ∃ W, w.alloc (.cells cs.toArray t) = W ∧ Below w.heap.size w W ∧ One W w.heap.size cs := ⟨_, rfl, (Below.refl _ w).alloc (by simp) _, One.new w cs t⟩
theorem One.keep {W W' : World} {g : Nat} {cs : List Value} {bs : List Nat} (h : One W g cs) (hk : Keep bs W W') (hg : g ∉ bs) : One W' g cs :=
  ⟨fun j u hu => (World.cell?_of_block (hk.block g h.lt hg)).trans (h.a j u hu), Nat.lt_of_lt_of_le h.lt hk.size⟩

theorem One.below {W W' : World} {g : Nat} {cs : List Value} (h : One W g cs) (hb : Below W.heap.size W W') : One W' g cs := h.keep (Keep.of_below [] hb) (by simp)
def wS {α : Type} (f : α → Nat) (l : List α) : Nat := l.length + sumW f l
/-- What the marks take is bounded by what the law counts. -/
theorem sum_le {α : Type} {f g : α → Nat} {s : Nat} (h : ∀ x, f x ≤ s + 16 * g x) (l : List α) : sumG f l ≤ s * l.length + 16 * sumW g l := by
  induction l with
  | nil => simp [sumG, sumW]
  | cons x l ih =>
    have hx := h x
    simp only [sumG, sumW, List.map_cons, List.sum_cons, List.length_cons] at ih ⊢
    rw [Nat.mul_add, Nat.mul_add]
    omega
theorem sumW_zero {α : Type} (l : List α) : sumW (fun _ : α => 0) l = 0 := by
  induction l with
  | nil => rfl
  | cons x l ih => simpa [sumW] using ih
theorem nodup2 {a b : List Nat} {n : Nat} (ha : a.Nodup) (hb : b.Nodup) (h1 : ∀ x ∈ a, x < n) (h2 : ∀ x ∈ b, n ≤ x) : (a ++ b).Nodup :=
  List.nodup_append.2 ⟨ha, hb, fun x hx y hy => by have := h1 x hx; have := h2 y hy; omega⟩
/-- Marks of plain cells. -/
def mkl {α : Type} (m : Nat → α) (k n : Nat) : List α := (List.range n).map fun i => m (k + i)
theorem mkl_length {α : Type} (m : Nat → α) (k n : Nat) : (mkl m k n).length = n := by simp [mkl]
theorem mkl_get {α : Type} (m : Nat → α) (k n i : Nat) (h : i < n) : (mkl m k n)[i]? = some (m (k + i)) := by unfold mkl; rw [List.getElem?_map, List.getElem?_range h]; rfl
theorem mkl_step {α : Type} (m : Nat → α) (k j : Nat) : mkl m k (j + 1) = mkl m k j ++ [m (k + j)] := by unfold mkl; rw [List.range_succ, List.map_append]; rfl
def mI (k : Nat) : Int := (k : Int)
def mB (k : Nat) : Bool := k % 3 == 0
theorem grown_setCell (w : World) (g j : Nat) (v : Value) : w.grownBy (w.setCell ⟨g, j, none⟩ v) (some g) :=
  ⟨rfl, rfl, rfl, by simp, fun k _ hk => heap_setCell_other w ⟨g, j, none⟩ k v (fun e => hk (by simp [e]))⟩

end Go.Proofs.Ytpgigoddjidfdaa.TyA
