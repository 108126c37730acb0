/- Memory by blocks: what stays, and lists whose elements lie in cells and blocks of their own. Condition: none. -/
import Derived.Test.YtpgigoddjidfdaaNum
import Derived.ChangeSlices
import Derived.BigRegion
import Derived.Below
import Derived.OwnWalk
import Derived.ProofKit
import Derived.OpenShut
import Derived.Deep.Slices
import Derived.Deep.RegionWith
namespace Go.Proofs.Ytpgigoddjidfdaa.RowC
open Go.RowKit Go.Deep Num
set_option maxRecDepth 100000
set_option linter.unusedVariables false
set_option linter.unusedSimpArgs false

/-- Of what is there nothing turns but the blocks bs. -/
structure Keep (bs : List Nat) (w w' : World) : Prop where
  os : w'.os = w.os
  tape : w'.tape = w.tape
  output : w'.output = w.output
  size : w.heap.size ≤ w'.heap.size
  block : ∀ k, k < w.heap.size → k ∉ bs → w'.heap[k]? = w.heap[k]?
theorem Keep.refl (bs : List Nat) (w : World) : Keep bs w w := ⟨rfl, rfl, rfl, Nat.le_refl _, fun _ _ _ => rfl⟩
theorem Keep.then {bs bs2 : List Nat} {a b c : World} (h : Keep bs a b) (k : Keep bs2 b c) (hs : ∀ x ∈ bs2, x ∈ bs ∨ a.heap.size ≤ x) : Keep bs a c :=
  ⟨k.os.trans h.os, k.tape.trans h.tape, k.output.trans h.output, Nat.le_trans h.size k.size, fun i hi hn => (k.block i (Nat.lt_of_lt_of_le hi h.size) (fun hm => by
    rcases hs i hm with h1 | h1
    · exact hn h1
    · omega)).trans (h.block i hi hn)⟩
theorem Keep.trans {bs : List Nat} {a b c : World} (h : Keep bs a b) (k : Keep bs b c) : Keep bs a c := h.then k (fun _ hx => .inl hx)
theorem Keep.mono {bs bs' : List Nat} {w w' : World} (h : Keep bs w w') (hs : ∀ b ∈ bs, b ∈ bs') : Keep bs' w w' := ⟨h.os, h.tape, h.output, h.size, fun k hk hn => h.block k hk (fun hm => hn (hs k hm))⟩
theorem Keep.below {n : Nat} {bs : List Nat} {w w' : World} (h : Keep bs w w') (hb : ∀ b ∈ bs, n ≤ b) (hn : n ≤ w.heap.size) : Below n w w' :=
  ⟨h.os, h.tape, h.output, h.size, fun k hk => h.block k (by omega) (fun hm => by have := hb k hm; omega)⟩
theorem Keep.of_below {w w' : World} (bs : List Nat) (h : Below w.heap.size w w') : Keep bs w w' := ⟨h.os, h.tape, h.output, h.size, fun k hk _ => h.block k hk⟩
theorem Keep.drew {bs : List Nat} {w w' : World} (h : Keep bs w w') : Keep bs w w'.drew := ⟨h.os, h.tape, h.output, h.size, h.block⟩
theorem Keep.set (w : World) (g j : Nat) (v : Value) (bs : List Nat) (hg : g ∈ bs) : Keep bs w (w.setCell ⟨g, j, none⟩ v) :=
  ⟨rfl, rfl, rfl, by simp, fun k _ hk => heap_setCell_other w ⟨g, j, none⟩ k v (fun e => hk (by simp at e; subst e; exact hg))⟩
theorem Keep.alloc (w : World) (o : Obj) (bs : List Nat) : Keep bs w (w.alloc o) := ⟨rfl, rfl, rfl, by simp, fun k hk _ => Below.heap_alloc w o k hk⟩

/-- The block that a slice lies in. -/
def blk (v : Value) : List Nat := match v.ownBlock with
  | some g => [g]
  | none => []
theorem blk_some (g n cap : Nat) : blk (.slice (some ⟨g, 0, none⟩) n cap) = [g] := rfl
theorem blk_nil (n cap : Nat) : blk (.slice none n cap) = [] := rfl
theorem Keep.of_grown {w w' : World} {v : Value} (h : w.grownBy w' v.ownBlock) : Keep (blk v) w w' := ⟨h.os, h.tape, h.output, h.size, fun k hk hn => h.block k hk (fun e => hn (by unfold blk; rw [← e]; simp))⟩
theorem Keep.of_grown' {w w' : World} {g : Nat} (h : w.grownBy w' (some g)) : Keep [g] w w' := ⟨h.os, h.tape, h.output, h.size, fun k hk hn => h.block k hk (fun e => hn (by simp at e; subst e; simp))⟩
section
variable {w w' : World} {B e s n : Nat} {v : Value} {xs : List Value} {bs : List Nat}
theorem own_lt (h : w.ownsRow B e s v n xs) : ∀ b ∈ blk v, B ≤ b ∧ b < w.heap.size := by
  intro b hb
  unfold blk at hb
  split at hb
  · next g hg =>
    simp at hb
    subst hb
    exact h.lt _ hg
  · simp at hb
theorem own_kept (h : w.ownsRow B e s v n xs) (k : Keep bs w w') (hd : ∀ b ∈ blk v, b ∉ bs) : w'.ownsRow B e s v n xs := by
  refine ⟨h.1, ?_⟩
  rcases h.2 with h1 | ⟨g, cap, cur, rfl, h2, h3, h4⟩
  · exact .inl h1
  · exact .inr ⟨g, cap, cur, rfl, h2, (k.block g (Array.getElem?_eq_some_iff.1 h3).1 (hd g (by rw [blk_some]; simp))).trans h3, h4⟩
theorem own_zero (h : w.ownsRow B e s v n xs) : w.ownsRow 0 e s v n xs := by
  refine ⟨h.1, ?_⟩
  rcases h.2 with h1 | ⟨g, cap, cur, h1, h2, h3⟩
  · exact .inl h1
  · exact .inr ⟨g, cap, cur, h1, Nat.zero_le _, h3⟩
theorem own_up (h : w.ownsRow 0 e s v n xs) (hb : ∀ b ∈ blk v, B ≤ b) : w.ownsRow B e s v n xs := by
  refine ⟨h.1, ?_⟩
  rcases h.2 with h1 | ⟨g, cap, cur, rfl, h2, h3⟩
  · exact .inl h1
  · exact .inr ⟨g, cap, cur, rfl, hb g (by rw [blk_some]; simp), h3⟩
theorem own_slice (h : w.ownsRow B e s v n xs) : ∃ a c, v = .slice a n c := by
  rcases h.2 with ⟨rfl, h0⟩ | ⟨g, cap, cur, rfl, _⟩
  · exact ⟨none, 0, by rw [h0]⟩
  · exact ⟨_, _, rfl⟩
end

/-- What is said of an element hangs on the blocks that it leads to, and on nothing else. -/
structure Good {α : Type} (P : World → List Value → α → List Nat → Prop) : Prop where
  keep : ∀ {w w' : World} {cs : List Value} {x : α} {b bs : List Nat}, P w cs x b → Keep bs w w' → (∀ y ∈ b, y ∉ bs) → P w' cs x b
  lt : ∀ {w : World} {cs : List Value} {x : α} {b : List Nat}, P w cs x b → ∀ y ∈ b, y < w.heap.size

/-- A list that is owned: its own block, elements of k cells, and what they lead to. -/
def Row {α : Type} (e k : Nat) (P : World → List Value → α → List Nat → Prop) (w : World) (v : Value) (l : List α) (bs : List Nat) : Prop :=
  ∃ (xs : List Value) (bss : List (List Nat)), w.ownsRow 0 e k v l.length xs ∧ bss.length = l.length ∧ bs = blk v ++ bss.flatten ∧ ∀ i x b, l[i]? = some x → bss[i]? = some b → P w ((xs.drop (i * k)).take k) x b
/-- The same with element i taken out: its cells are cs, its blocks b. -/
def Out {α : Type} (e k : Nat) (P : World → List Value → α → List Nat → Prop) (w : World) (v : Value) (l : List α) (bs : List Nat) (i : Nat) (cs : List Value) (b : List Nat) : Prop :=
  ∃ (xs : List Value) (bss : List (List Nat)), w.ownsRow 0 e k v l.length xs ∧ bss.length = l.length ∧ bs = blk v ++ bss.flatten ∧ i < l.length ∧ bss[i]? = some b ∧ (xs.drop (i * k)).take k = cs ∧ ∀ i' x b, i' ≠ i → l[i']? = some x → bss[i']? = some b → P w ((xs.drop (i' * k)).take k) x b

section
variable {α : Type} {e k : Nat} {P : World → List Value → α → List Nat → Prop} {w w' : World} {v : Value} {l : List α} {bs bs' b : List Nat} {i : Nat} {cs : List Value}
theorem mem_flat {bss : List (List Nat)} {i : Nat} {b : List Nat} (h : bss[i]? = some b) {y : Nat} (hy : y ∈ b) : y ∈ bss.flatten := List.mem_flatten.2 ⟨b, List.mem_of_getElem? h, hy⟩
theorem Row.keep (hP : Good P) (h : Row e k P w v l bs) (hk : Keep bs' w w') (hd : ∀ b ∈ bs, b ∉ bs') : Row e k P w' v l bs := by
  obtain ⟨xs, bss, h1, h2, rfl, h4⟩ := h
  exact ⟨xs, bss, own_kept h1 hk (fun b hb => hd b (List.mem_append_left _ hb)), h2, rfl, fun i x b hx hb => hP.keep (h4 i x b hx hb) hk (fun y hy => hd y (List.mem_append_right _ (mem_flat hb hy)))⟩
theorem Row.lt (hP : Good P) (h : Row e k P w v l bs) : ∀ b ∈ bs, b < w.heap.size := by
  obtain ⟨xs, bss, h1, h2, rfl, h4⟩ := h
  intro y hy
  rcases List.mem_append.1 hy with hy | hy
  · exact (own_lt h1 y hy).2
  · obtain ⟨b, hb, hyb⟩ := List.mem_flatten.1 hy
    obtain ⟨i, hi⟩ := List.getElem?_of_mem hb
    have hil : i < l.length := by rw [← h2]; exact (List.getElem?_eq_some_iff.1 hi).1
    exact hP.lt (h4 i l[i] b (List.getElem?_eq_getElem hil) hi) y hyb
theorem Row.below (hP : Good P) (h : Row e k P w v l bs) (hb : Below w.heap.size w w') : Row e k P w' v l bs := h.keep hP (Keep.of_below [] hb) (by simp)
theorem Row.slice (h : Row e k P w v l bs) : ∃ a c, v = .slice a l.length c := by
  obtain ⟨xs, bss, h1, _⟩ := h
  exact own_slice h1
theorem Row.cases (h : Row e k P w v l bs) : (v = .slice none 0 0 ∧ l = [] ∧ bs = []) ∨ ∃ g cap, v = .slice (some ⟨g, 0, none⟩) l.length cap ∧ g < w.heap.size ∧ g ∈ bs := by
  obtain ⟨xs, bss, h1, h2, rfl, h4⟩ := h
  rcases h1.2 with ⟨rfl, h0⟩ | ⟨g, cap, cur, rfl, _, hg, _⟩
  · obtain rfl : l = [] := List.eq_nil_of_length_eq_zero h0
    obtain rfl : bss = [] := List.eq_nil_of_length_eq_zero h2
    exact .inl ⟨rfl, rfl, rfl⟩
  · exact .inr ⟨g, cap, rfl, (Array.getElem?_eq_some_iff.1 hg).1, by rw [blk_some]; simp⟩
theorem Row.nil (e k : Nat) (P : World → List Value → α → List Nat → Prop) (w : World) : Row e k P w (.slice none 0 0) [] [] :=
  ⟨[], [], World.ownsRow_nil _ _ _ _, rfl, rfl, fun i x b h => by simp at h⟩
theorem Row.out (h : Row e k P w v l bs) (hi : i < l.length) : ∃ x cs b, l[i]? = some x ∧ P w cs x b ∧ Out e k P w v l bs i cs b := by
  obtain ⟨xs, bss, h1, h2, rfl, h4⟩ := h
  have hib : i < bss.length := by omega
  exact ⟨l[i], _, bss[i], List.getElem?_eq_getElem hi, h4 i l[i] bss[i] (List.getElem?_eq_getElem hi) (List.getElem?_eq_getElem hib), xs, bss, h1, h2, rfl, hi, List.getElem?_eq_getElem hib, rfl, fun i' x b _ hx hb => h4 i' x b hx hb⟩
theorem Out.len (h : Out e k P w v l bs i cs b) : cs.length = k := by
  obtain ⟨xs, bss, h1, h2, rfl, hi, hb, rfl, h4⟩ := h
  have := h1.1
  have hk : i * k + k ≤ l.length * k := by rw [← Nat.succ_mul]; exact Nat.mul_le_mul_right k hi
  simp
  omega
theorem Out.sub (h : Out e k P w v l bs i cs b) : ∀ y ∈ b, y ∈ bs := by
  obtain ⟨xs, bss, h1, h2, rfl, hi, hb, _⟩ := h
  exact fun y hy => List.mem_append_right _ (mem_flat hb hy)
theorem Out.cell {g cap n : Nat} (h : Out e k P w (.slice (some ⟨g, 0, none⟩) n cap) l bs i cs b) (j : Nat) (u : Value) (hu : cs[j]? = some u) : w.cell? ⟨g, i * k + j, none⟩ = some u := by
  have hl := h.len
  obtain ⟨xs, bss, h1, h2, rfl, hi, hb, rfl, h4⟩ := h
  obtain ⟨a, c, hv⟩ := own_slice h1
  simp at hv
  obtain ⟨_, rfl, _⟩ := hv
  have hj : j < k := by rw [← hl]; exact (List.getElem?_eq_some_iff.1 hu).1
  have hk : i * k + k ≤ l.length * k := by rw [← Nat.succ_mul]; exact Nat.mul_le_mul_right k hi
  rw [h1.cellAt (i * k + j) (by omega), ← hu, List.getElem?_take_of_lt hj, List.getElem?_drop]
theorem Out.frozen {g cap n : Nat} (h : Out e k P w (.slice (some ⟨g, 0, none⟩) n cap) l bs i cs b) (j : Nat) : w.frozen? ⟨g, j, none⟩ = false := by
  obtain ⟨xs, bss, h1, h2, rfl, hi, hb, rfl, h4⟩ := h
  obtain ⟨a, c, hv⟩ := own_slice h1
  simp at hv
  obtain ⟨_, rfl, _⟩ := hv
  exact h1.frozenAt j
theorem Out.keep (hP : Good P) (hn : bs.Nodup) (h : Out e k P w v l bs i cs b) (hk : Keep b w w') : Out e k P w' v l bs i cs b := by
  obtain ⟨xs, bss, h1, h2, rfl, hi, hb, hcs, h4⟩ := h
  obtain ⟨_, hn2, hn3⟩ := List.nodup_append.1 hn
  refine ⟨xs, bss, own_kept h1 hk (fun y hy hyb => hn3 y hy y (mem_flat hb hyb) rfl), h2, rfl, hi, hb, hcs, fun i' x b' hne hx hb' => hP.keep (h4 i' x b' hne hx hb') hk (fun y hy hyb => ?_)⟩
  have hpw := (List.pairwise_flatten.1 hn2).2
  have hi' : i' < bss.length := (List.getElem?_eq_some_iff.1 hb').1
  have hii : i < bss.length := (List.getElem?_eq_some_iff.1 hb).1
  rw [List.getElem?_eq_getElem hi'] at hb'
  rw [List.getElem?_eq_getElem hii] at hb
  simp at hb hb'
  rcases Nat.lt_or_gt_of_ne hne with h | h
  · exact (List.pairwise_iff_getElem.1 hpw) i' i hi' hii h y (by rw [hb']; exact hy) y (by rw [hb]; exact hyb) rfl
  · exact (List.pairwise_iff_getElem.1 hpw) i i' hii hi' h y (by rw [hb]; exact hyb) y (by rw [hb']; exact hy) rfl
theorem Out.keepAll (hP : Good P) (h : Out e k P w v l bs i cs b) (hk : Below w.heap.size w w') : Out e k P w' v l bs i cs b := by
  obtain ⟨xs, bss, h1, h2, rfl, hi, hb, hcs, h4⟩ := h
  exact ⟨xs, bss, own_kept h1 (Keep.of_below [] hk) (by simp), h2, rfl, hi, hb, hcs, fun i' x b' hne hx hb' => hP.keep (h4 i' x b' hne hx hb') (Keep.of_below [] hk) (by simp)⟩
theorem Out.set {g cap n : Nat} (hP : Good P) (hn : bs.Nodup) (h : Out e k P w (.slice (some ⟨g, 0, none⟩) n cap) l bs i cs b) (j : Nat) (hj : j < k) (u : Value) : Out e k P (w.setCell ⟨g, i * k + j, none⟩ u) (.slice (some ⟨g, 0, none⟩) n cap) l bs i (cs.set j u) b := by
  have hl := h.len
  obtain ⟨xs, bss, h1, h2, rfl, hi, hb, rfl, h4⟩ := h
  obtain ⟨a, c, hv⟩ := own_slice h1
  simp at hv
  obtain ⟨_, rfl, _⟩ := hv
  obtain ⟨_, hn2, hn3⟩ := List.nodup_append.1 hn
  have hk : i * k + k ≤ l.length * k := by rw [← Nat.succ_mul]; exact Nat.mul_le_mul_right k hi
  have hxl := h1.1
  refine ⟨xs.set (i * k + j) u, bss, (h1.stored (i * k + j) u).1, h2, rfl, hi, hb, ?_, fun i' x b' hne hx hb' => ?_⟩
  · rw [List.drop_set, if_neg (by omega), show i * k + j - i * k = j by omega, List.take_set]
  · have : ((xs.set (i * k + j) u).drop (i' * k)).take k = (xs.drop (i' * k)).take k := by
      rcases Nat.lt_or_gt_of_ne hne with h | h
      · have : i' * k + k ≤ i * k := by rw [← Nat.succ_mul]; exact Nat.mul_le_mul_right k h
        rw [List.drop_set, if_neg (by omega), List.take_set_of_le (by omega)]
      · have : i * k + k ≤ i' * k := by rw [← Nat.succ_mul]; exact Nat.mul_le_mul_right k h
        rw [List.drop_set, if_pos (by omega)]
    rw [this]
    exact hP.keep (h4 i' x b' hne hx hb') (Keep.set w g _ u [g] (by simp)) (fun y hy hyg => by
      simp at hyg
      subst hyg
      exact hn3 y (by rw [blk_some]; simp) y (mem_flat hb' hy) rfl)
theorem Out.shut {x : α} (h : Out e k P w v l bs i cs b) (hx : P w cs x b) : Row e k P w v (l.set i x) bs := by
  obtain ⟨xs, bss, h1, h2, rfl, hi, hb, hcs, h4⟩ := h
  refine ⟨xs, bss, by simpa using h1, by simpa using h2, rfl, fun i' x' b' hx' hb' => ?_⟩
  by_cases hii : i' = i
  · subst hii
    rw [List.getElem?_set_self (by omega)] at hx'
    simp at hx'
    subst hx'
    rw [hb] at hb'
    simp at hb'
    subst hb'
    rw [hcs]; exact hx
  · rw [List.getElem?_set_ne (fun h => hii h.symm)] at hx'
    exact h4 i' x' b' hii hx' hb'
theorem Out.unread {x : α} (h : Out e k P w v l bs i cs b) (hx : P w cs x b) (hl : l[i]? = some x) : Row e k P w v l bs := by
  have hs := h.shut hx
  have he : l.set i x = l := by
    obtain ⟨h1, rfl⟩ := List.getElem?_eq_some_iff.1 hl
    simp
  rwa [he] at hs
end

end Go.Proofs.Ytpgigoddjidfdaa.RowC
