/- Marks by position: what a list of elements becomes, each marked from where the one ahead of it ends. Condition: none. -/
import Derived.Test.YtldbdmafodcmnaaUnC
import Derived.Test.YtldbdmafodcmnaaPrgM
import Derived.Deep.RegionWith
import Derived.BigRegion
namespace Go.Proofs.Ytldbdmafodcmnaa.MkG
open Go.RowKit Go.Deep Num InsC InsO ProgC IntC RowC PrgL UnC
set_option maxRecDepth 100000
set_option linter.unusedVariables false
set_option linter.unusedSimpArgs false

section
variable {α : Type} (wt : α → Nat)
/-- What the first elements take. -/
def sumG (l : List α) : Nat := (l.map wt).sum
def offG (l : List α) (k i : Nat) : Nat := k + sumG wt (l.take i)
theorem sumG_step (l : List α) (i : Nat) (x : α) (h : l[i]? = some x) : sumG wt (l.take (i + 1)) = sumG wt (l.take i) + wt x := by
  obtain ⟨hi, rfl⟩ := List.getElem?_eq_some_iff.1 h
  unfold sumG
  rw [List.take_succ_eq_append_getElem hi, List.map_append, List.sum_append]
  simp only [List.map_cons, List.map_nil, List.sum_cons, List.sum_nil, Nat.add_zero]
theorem sumG_take (l : List α) (i : Nat) : sumG wt (l.take i) ≤ sumG wt l := by
  have : sumG wt l = sumG wt (l.take i) + sumG wt (l.drop i) := by
    unfold sumG
    rw [← List.sum_append, ← List.map_append, List.take_append_drop]
  omega
theorem sumG_mem (l : List α) (i : Nat) (x : α) (h : l[i]? = some x) : sumG wt (l.take i) + wt x ≤ sumG wt l := by
  rw [← sumG_step wt l i x h]; exact sumG_take wt l (i + 1)
theorem offG_zero (l : List α) (k : Nat) : offG wt l k 0 = k := by simp [offG, sumG]
theorem offG_all (l : List α) (k : Nat) : offG wt l k l.length = k + sumG wt l := by unfold offG; rw [List.take_length]
theorem offG_step (l : List α) (k i : Nat) (x : α) (h : l[i]? = some x) : offG wt l k (i + 1) = offG wt l k i + wt x := by
  unfold offG
  rw [sumG_step wt l i x h]; omega
theorem offG_le (l : List α) (k i : Nat) : offG wt l k i ≤ k + sumG wt l := by unfold offG; have := sumG_take wt l i; omega
variable [Inhabited α] (mk : Nat → α → α)
def markedG (l : List α) (k : Nat) : List α := (List.range l.length).map fun i => mk (offG wt l k i) (l.getD i default)
def partlyG (l : List α) (k j : Nat) : List α := (markedG wt mk l k).take j ++ l.drop j
theorem markedG_length (l : List α) (k : Nat) : (markedG wt mk l k).length = l.length := by simp [markedG]
theorem markedG_get (l : List α) (k i : Nat) (x : α) (h : l[i]? = some x) : (markedG wt mk l k)[i]? = some (mk (offG wt l k i) x) := by
  have hi := (List.getElem?_eq_some_iff.1 h).1
  unfold markedG
  rw [List.getElem?_map, List.getElem?_range hi]
  simp [List.getD_eq_getElem?_getD, h]
theorem partlyG_zero (l : List α) (k : Nat) : partlyG wt mk l k 0 = l := by simp [partlyG]
theorem partlyG_all (l : List α) (k : Nat) : partlyG wt mk l k l.length = markedG wt mk l k := by
  unfold partlyG
  rw [List.take_of_length_le (by rw [markedG_length]; exact Nat.le_refl _)]
  simp
theorem partlyG_length (l : List α) (k j : Nat) (h : j ≤ l.length) : (partlyG wt mk l k j).length = l.length := by
  unfold partlyG
  simp [markedG_length]
  omega
theorem partlyG_get (l : List α) (k j : Nat) (h : j < l.length) : (partlyG wt mk l k j)[j]? = l[j]? := by
  unfold partlyG
  rw [List.getElem?_append_right (by simp; omega)]
  simp [markedG_length, Nat.min_eq_left (Nat.le_of_lt h)]
theorem partlyG_set (l : List α) (k j : Nat) (x : α) (h : l[j]? = some x) : (partlyG wt mk l k j).set j (mk (offG wt l k j) x) = partlyG wt mk l k (j + 1) := by
  have hj := (List.getElem?_eq_some_iff.1 h).1
  have hm := markedG_get wt mk l k j x h
  obtain ⟨h1, h2⟩ := List.getElem?_eq_some_iff.1 hm
  have e : ∀ x : α, (l.drop j).set 0 x = x :: l.drop (j + 1) := fun x => by rw [List.drop_eq_getElem_cons hj]; rfl
  have hi : j - ((markedG wt mk l k).take j).length = 0 := by simp [markedG_length]; omega
  unfold partlyG
  rw [List.set_append_right _ _ (by simp; omega), hi, e, List.take_succ_eq_append_getElem h1, h2, List.append_assoc]
  rfl
end

/-- n marked numbers. -/
def mi (k n : Nat) : List Int := (List.range n).map fun i => ((k + i : Nat) : Int)
theorem mi_length (k n : Nat) : (mi k n).length = n := by simp [mi]
theorem mi_map (k n : Nat) : (mi k n).map ic = MarkI.marksI k n := by
  unfold mi MarkI.marksI
  rw [List.map_map]
  rfl
theorem ints_mark (x : Int) (k : Nat) (hx : x = (k : Int)) (v : Value) (l : List Int) (b : List Nat) (w : World) (hn : l.length ≤ 1048576) (hk : k ≤ 100000000) (h : IntsO w v l b) :
    Calls Try.prog 31 #[v, .int .i64 x] w fun e w' => e = .returned (.int .i64 ((k + l.length : Nat) : Int)) ∧ IntsO w' v (mi k l.length) b ∧ Keep b w w' := by
  subst hx
  obtain ⟨hown, rfl⟩ := h
  refine (MarkI.mark_any 0 l.length k v _ w hn hk hown).mono ?_
  rintro e w' ⟨rfl, h1, h2⟩
  exact ⟨rfl, ⟨by rw [mi_length, mi_map]; exact h1, rfl⟩, Keep.of_grown h2⟩
theorem ints_held (x : Int) (k n : Nat) (hx : x = (k : Int)) (v : Value) (b : List Nat) (w : World) (hn : n ≤ 1048576) (hk : k ≤ 100000000) (h : IntsO w v (mi k n) b) :
    Calls Try.prog 37 #[v, .int .i64 x] w fun e w' => e = .returned (.int .i64 ((k + n : Nat) : Int)) ∧ w = w' := by
  subst hx
  obtain ⟨hown, rfl⟩ := h
  rw [mi_length, mi_map] at hown
  exact MarkI.held_any 0 n k v w hn hk hown

def wPr (p : Pr) : Nat := 7 + p.regs.length + p.mem.length + p.fds.length
def wOp (_ : Ope) : Nat := 5
def wPi (p : Pip) : Nat := 1 + p.data.length
def mPr (k : Nat) (p : Pr) : Pr := ⟨(k : Int), (k : Int) + 1, (k : Int) + 1 + 1, (k : Int) + 1 + 1 + 1, (k : Int) + 1 + 1 + 1 + 1, mi (k + 5) p.regs.length, mi (k + 5 + p.regs.length) p.mem.length, mi (k + 5 + p.regs.length + p.mem.length) p.fds.length,
  ((k + 5 + p.regs.length + p.mem.length + p.fds.length : Nat) : Int), ((k + 5 + p.regs.length + p.mem.length + p.fds.length : Nat) : Int) + 1⟩
def mOp (k : Nat) (_ : Ope) : Ope := ⟨(k : Int), (k : Int) + 1, (k : Int) + 1 + 1, (k : Int) + 1 + 1 + 1, (k : Int) + 1 + 1 + 1 + 1⟩
def mPi (k : Nat) (p : Pip) : Pip := ⟨(k : Int), mi (k + 1) p.data.length⟩
section
variable {α : Type} {e k : Nat} {P : World → List Value → α → List Nat → Prop} {w w' : World} {l : List α} {bs b : List Nat} {i g n cap : Nat} {cs : List Value}
theorem out_notin (hn : bs.Nodup) (h : Out e k P w (.slice (some ⟨g, 0, none⟩) n cap) l bs i cs b) : g ∉ b := by
  obtain ⟨xs, bss, h1, h2, rfl, hi, hb, _⟩ := h
  obtain ⟨_, _, hn3⟩ := List.nodup_append.1 hn
  exact fun hg => hn3 g (by rw [blk_some]; simp) g (mem_flat hb hg) rfl
theorem out_in (h : Out e k P w (.slice (some ⟨g, 0, none⟩) n cap) l bs i cs b) : g ∈ bs := by
  obtain ⟨xs, bss, h1, h2, rfl, _⟩ := h
  rw [blk_some]; simp
theorem out_nodup {v : Value} (hn : bs.Nodup) (h : Out e k P w v l bs i cs b) : b.Nodup := by
  obtain ⟨xs, bss, h1, h2, rfl, hi, hb, _⟩ := h
  obtain ⟨_, hn2, _⟩ := List.nodup_append.1 hn
  exact (List.pairwise_flatten.1 hn2).1 b (List.mem_of_getElem? hb)
end

end Go.Proofs.Ytldbdmafodcmnaa.MkG
