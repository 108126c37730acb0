/- A list of structs under way: the first of its elements are laid. Condition: none. -/
import Derived.Test.YtighnfeifkgajaaGreatArgU
namespace Go.Proofs.YtighnfeifkgajaaGreat.ToG
open Go.RowKit Go.Deep Num InsC InsO ProgC IntC RowC PrgL UnC ArgU
set_option maxRecDepth 100000
set_option linter.unusedVariables false
set_option linter.unusedSimpArgs false

/-- Cells written one behind the other. -/
def setMany : List Value → Nat → List Value → List Value
  | z, _, [] => z
  | z, o, u :: us => setMany (z.set o u) (o + 1) us
theorem setMany_length : ∀ (us z : List Value) (o : Nat), (setMany z o us).length = z.length
  | [], _, _ => rfl
  | u :: us, z, o => by rw [setMany, setMany_length us]; simp
theorem setMany_take : ∀ (us z : List Value) (o n : Nat), n ≤ o → (setMany z o us).take n = z.take n
  | [], _, _, _, _ => rfl
  | u :: us, z, o, n, h => by rw [setMany, setMany_take us _ _ n (by omega), List.take_set_of_le h]
theorem setMany_mid : ∀ (us z : List Value) (o : Nat), o + us.length ≤ z.length → ((setMany z o us).drop o).take us.length = us
  | [], _, _, _ => by simp
  | u :: us, z, o, h => by
    simp at h
    rw [setMany]
    have ih := setMany_mid us (z.set o u) (o + 1) (by simp; omega)
    have ht := setMany_take us (z.set o u) (o + 1) (o + 1) (Nat.le_refl _)
    have hl : (setMany (z.set o u) (o + 1) us).length = z.length := by rw [setMany_length]; simp
    have hg : (setMany (z.set o u) (o + 1) us)[o]? = some u := by
      have := congrArg (fun l => l[o]?) ht
      simp only [List.getElem?_take_of_lt (Nat.lt_succ_self o)] at this
      rw [this, List.getElem?_set_self (by omega)]
    obtain ⟨h1, h2⟩ := List.getElem?_eq_some_iff.1 hg
    rw [List.drop_eq_getElem_cons h1, h2, List.length_cons, List.take_succ_cons, ih]
/-- The first j elements are laid, from block g on. -/
structure PreG {α : Type} (P : World → List Value → α → List Nat → Prop) (k g : Nat) (L : List α) (z : List Value) (j : Nat) (bss : List (List Nat)) (wr : World) : Prop where
  len : bss.length = j
  at_ : ∀ i x b, i < j → L[i]? = some x → bss[i]? = some b → P wr ((z.drop (i * k)).take k) x b
  nodup : bss.flatten.Nodup
  above : ∀ y ∈ bss.flatten, g < y
  lt : ∀ y ∈ bss.flatten, y < wr.heap.size
section
variable {α : Type} {P : World → List Value → α → List Nat → Prop} {k g : Nat} {L : List α} {z : List Value} {j : Nat} {bss : List (List Nat)} {wr w2 w3 : World}
theorem PreG.start (P : World → List Value → α → List Nat → Prop) (k g : Nat) (L : List α) (z : List Value) (wr : World) : PreG P k g L z 0 [] wr := ⟨rfl, fun i x b h => by omega, by simp, by simp, by simp⟩
theorem PreG.step (hP : RowC.Good P) {x : α} {cs : List Value} {b : List Nat} (h : PreG P k g L z j bss wr) (hj : j * k + k ≤ z.length) (hk : cs.length = k) (hg : g < wr.heap.size) (hx : L[j]? = some x) (hb : Below wr.heap.size wr w2) (hp : P w2 cs x b) (hn : b.Nodup) (hge : ∀ y ∈ b, wr.heap.size ≤ y) (hk3 : Keep [g] w2 w3) (hs3 : w3.heap.size = w2.heap.size) :
    PreG P k g L (setMany z (j * k) cs) (j + 1) (bss ++ [b]) w3 := by
  have hlb := hP.lt hp
  have hk2 : Keep [g] wr w3 := (Keep.of_below [g] hb).trans hk3
  refine ⟨by simp [h.len], fun i x' b' hi hL hbs => ?_, ?_, ?_, ?_⟩
  · by_cases hij : i = j
    · subst hij
      rw [hx] at hL
      rw [List.getElem?_append_right (by rw [h.len]; exact Nat.le_refl _), h.len] at hbs
      simp at hL hbs
      subst hL hbs
      have e := setMany_mid cs z (i * k) (by omega)
      rw [hk] at e
      rw [e]
      exact hP.keep hp hk3 (fun y hy hyg => by have := hge y hy; simp at hyg; omega)
    · have hlt : i < j := by omega
      rw [List.getElem?_append_left (by rw [h.len]; omega)] at hbs
      have hik : i * k + k ≤ j * k := by rw [← Nat.succ_mul]; exact Nat.mul_le_mul_right k hlt
      have e : ((setMany z (j * k) cs).drop (i * k)).take k = (z.drop (i * k)).take k := by
        have e1 := setMany_take cs z (j * k) (i * k + k) hik
        have e2 := congrArg (List.drop (i * k)) e1
        rw [List.drop_take, List.drop_take, show i * k + k - i * k = k by omega] at e2
        exact e2
      rw [e]
      exact hP.keep (h.at_ i x' b' hlt hL hbs) hk2 (fun y hy hyg => by
        have := h.above y (mem_flat hbs hy)
        simp at hyg
        omega)
  · rw [List.flatten_append]
    refine List.nodup_append.2 ⟨h.nodup, by simpa using hn, fun a ha b' hb' => ?_⟩
    simp at hb'
    have := hge b' hb'
    have := h.lt a ha
    omega
  · intro y hy
    rw [List.flatten_append] at hy
    rcases List.mem_append.1 hy with hy | hy
    · exact h.above y hy
    · simp at hy
      have := hge y hy
      omega
  · intro y hy
    rw [hs3]
    rw [List.flatten_append] at hy
    rcases List.mem_append.1 hy with hy | hy
    · exact Nat.lt_of_lt_of_le (h.lt y hy) hb.size
    · simp at hy
      exact hlb y hy
theorem PreG.done {e B : Nat} (h : PreG P k g L z L.length bss wr) (hown : wr.ownsRow B e k (.slice (some ⟨g, 0, none⟩) L.length L.length) L.length z) (hB : B ≤ g) :
    ∃ bs, Row e k P wr (.slice (some ⟨g, 0, none⟩) L.length L.length) L bs ∧ bs.Nodup ∧ ∀ b ∈ bs, B ≤ b := by
  refine ⟨_, ⟨z, bss, own_zero hown, h.len, rfl, fun i l b hl hb => h.at_ i l b (List.getElem?_eq_some_iff.1 hl).1 hl hb⟩, ?_, ?_⟩
  · rw [blk_some]
    refine List.nodup_append.2 ⟨by simp, h.nodup, fun a ha b hb => ?_⟩
    simp at ha
    have := h.above b hb
    omega
  · intro b hb
    rw [blk_some] at hb
    rcases List.mem_append.1 hb with hb | hb
    · simp at hb; omega
    · have := h.above b hb; omega
end

end Go.Proofs.YtighnfeifkgajaaGreat.ToG
