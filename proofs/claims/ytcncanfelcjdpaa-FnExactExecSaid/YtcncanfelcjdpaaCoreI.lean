/- impl's core: what it is made of, the Cpu that is made of it. Condition: none. -/
import Derived.Test.YtcncanfelcjdpaaCpuI
import Derived.Test.YtcncanfelcjdpaaAppI
import Derived.Laws.CopyOwn
import Derived.Deep.RegionWith
import Derived.Deep.RegionLaw
import Derived.BigRegion
namespace Go.Proofs.Ytcncanfelcjdpaa.CoreI
open Go.RowKit Go.Deep Num InsC InsO ProgC ProgD IntC CpuC CpuS CpuI AppI
set_option maxRecDepth 100000
set_option linter.unusedVariables false
set_option linter.unusedSimpArgs false

/-- A core as a value. -/
def core (pc : Int) (r : List Int) : Value := .agg (.int .i64 pc :: r.map ic).toArray

theorem four_of {r : List Int} (h : r.length = 4) : ∃ r0 r1 r2 r3, r = [r0, r1, r2, r3] := by
  match r, h with
  | [a, b, c, d], _ => exact ⟨a, b, c, d, rfl⟩

set_option maxHeartbeats 1000000 in
theorem cpu_any (pc : Int) (r : List Int) (w : World) (h4 : r.length = 4) :
    Calls Try.prog 36 #[core pc r] w fun e w' => ∃ v, e = .returned (cpu pc v) ∧ w'.ownsRow w.heap.size 3 1 v r.length (r.map ic) ∧ Below w.heap.size w w' := by
  obtain ⟨r0, r1, r2, r3, rfl⟩ := four_of h4
  unfold cpu core
  simp only [List.map_cons, List.map_nil, ic]
  obtain ⟨W2, hW2⟩ : ∃ W2, ((w.alloc (.cells #[.int .i64 pc, .int .i64 r0, .int .i64 r1, .int .i64 r2, .int .i64 r3] 65)).alloc (.cells #[.int .i64 0, .slice none 0 0] 27)) = W2 := ⟨_, rfl⟩
  have hsz : W2.heap.size = w.heap.size + 2 := by rw [← hW2]; simp
  have hB0 : Below w.heap.size w W2 := by rw [← hW2]; exact ((Below.refl _ w).alloc (Nat.le_refl _) _).alloc (by simp) _
  have k : ∀ j, W2.cell? ⟨w.heap.size, j, none⟩ = (#[.int .i64 pc, .int .i64 r0, .int .i64 r1, .int .i64 r2, .int .i64 r3] : Array Value)[j]? := by intro j; rw [← hW2, World.cell?_alloc_lt _ _ _ (by simp), World.cell?_alloc_at _ _ _ _ rfl]
  have p0 : ∀ j, W2.cell? ⟨w.heap.size + 1, j, none⟩ = (#[.int .i64 0, .slice none 0 0] : Array Value)[j]? := by intro j; rw [← hW2, World.cell?_alloc_at _ _ _ _ (by simp)]
  have f0 : ∀ j, W2.frozen? ⟨w.heap.size + 1, j, none⟩ = false := by intro j; rw [← hW2]; exact frozen_at _ _ _ _ _ (by simp)
  have k0 := k 0
  simp at k0
  have kr : ∀ j (x : Int), [r0, r1, r2, r3][j]? = some x → W2.cell? ⟨w.heap.size, 1 + j, none⟩ = some (.int .i64 x) := by
    intro j x hj
    rw [k]
    have hj4 : j < 4 := (List.getElem?_eq_some_iff.1 hj).1
    have : j = 0 ∨ j = 1 ∨ j = 2 ∨ j = 3 := by omega
    rcases this with rfl | rfl | rfl | rfl <;> simpa using hj
  have H := hd (clone_any w.heap.size 1 4 [r0, r1, r2, r3] 4 rfl W2.drew (by simp) (by simp [hsz]) kr)
  have p00 := p0 0
  have p01 := p0 1
  simp at p00 p01
  go_enter Try.func36, Try.ntmps36
  go_wp2_with fail
  clear hW2 k kr p0
  go_region_with (go_at_call 53; refine H.out.mono ?_; rintro e w1 ⟨v, rfl, hr, hb⟩; have q0 := (hb.cell (p := ⟨w.heap.size + 1, 0, none⟩) (by simp [hsz])).trans p00; have q1 := (hb.cell (p := ⟨w.heap.size + 1, 1, none⟩) (by simp [hsz])).trans p01; have qf := fun j => (hb.frozen (p := ⟨w.heap.size + 1, j, none⟩) (by simp [hsz])).trans (f0 j); have l0 := (hb.cell (p := ⟨w.heap.size, 0, none⟩) (by simp [hsz])).trans k0; obtain ⟨av, cv, rfl⟩ := own_slice hr)
  all_goals
    have hbs := hb.size
    have hB1 : Below w.heap.size w w1 := hB0.drew.trans (hb.mono (by simp [hsz]))
    have HR := hd hr
    have HB := hd hB1
    obtain ⟨z0, z1⟩ := two (.int .i64 pc) (.slice av 4 cv) q0 q1
    clear hr hB1 hb hB0
    go_wp2
    refine bodyPost_ret (v := .agg #[.int .i64 pc, .slice av 4 cv]) (by simp [results, Try.results36, go_sem, z0, z1]) rfl ⟨_, rfl, ?_, ?_⟩
    · exact own_mono (own_set (own_set HR.out (by simp [hsz])) (by simp [hsz])) (by simp [hsz])
    · exact (HB.out.setCell (p := ⟨w.heap.size + 1, 0, none⟩) (by simp) _).setCell (p := ⟨w.heap.size + 1, 1, none⟩) (by simp) _

theorem cell_of {W : World} {g : Nat} {cs : List Value} {t : TypeId} (h : W.heap[g]? = some (.cells cs.toArray t (0, 0))) (j : Nat) : W.cell? ⟨g, j, none⟩ = cs[j]? := by simp [World.cell?, h]
/-- Five cells, written one behind the other. -/
theorem five {w : World} {B : Nat} {x y z u v : Value} (a b c d e : Value) (h0 : w.cell? ⟨B, 0, none⟩ = some x) (h1 : w.cell? ⟨B, 1, none⟩ = some y) (h2 : w.cell? ⟨B, 2, none⟩ = some z) (h3 : w.cell? ⟨B, 3, none⟩ = some u) (h4 : w.cell? ⟨B, 4, none⟩ = some v) :
    (((((w.setCell ⟨B, 0, none⟩ a).setCell ⟨B, 1, none⟩ b).setCell ⟨B, 2, none⟩ c).setCell ⟨B, 3, none⟩ d).setCell ⟨B, 4, none⟩ e).cell? ⟨B, 0, none⟩ = some a ∧ (((((w.setCell ⟨B, 0, none⟩ a).setCell ⟨B, 1, none⟩ b).setCell ⟨B, 2, none⟩ c).setCell ⟨B, 3, none⟩ d).setCell ⟨B, 4, none⟩ e).cell? ⟨B, 1, none⟩ = some b ∧
    (((((w.setCell ⟨B, 0, none⟩ a).setCell ⟨B, 1, none⟩ b).setCell ⟨B, 2, none⟩ c).setCell ⟨B, 3, none⟩ d).setCell ⟨B, 4, none⟩ e).cell? ⟨B, 2, none⟩ = some c ∧ (((((w.setCell ⟨B, 0, none⟩ a).setCell ⟨B, 1, none⟩ b).setCell ⟨B, 2, none⟩ c).setCell ⟨B, 3, none⟩ d).setCell ⟨B, 4, none⟩ e).cell? ⟨B, 3, none⟩ = some d ∧
    (((((w.setCell ⟨B, 0, none⟩ a).setCell ⟨B, 1, none⟩ b).setCell ⟨B, 2, none⟩ c).setCell ⟨B, 3, none⟩ d).setCell ⟨B, 4, none⟩ e).cell? ⟨B, 4, none⟩ = some e := by
  have o : ∀ (W : World) (i j : Nat) (q : Value), i ≠ j → (W.setCell ⟨B, i, none⟩ q).cell? ⟨B, j, none⟩ = W.cell? ⟨B, j, none⟩ := fun W i j q hij => World.cell?_setCell_other _ _ _ _ (by first | (simp; omega) | simp | simpa using hij)
  refine ⟨?_, ?_, ?_, ?_, ?_⟩
  · rw [o _ 4 0 _ (by omega), o _ 3 0 _ (by omega), o _ 2 0 _ (by omega), o _ 1 0 _ (by omega)]; exact World.cell?_setCell_same _ _ _ h0
  · rw [o _ 4 1 _ (by omega), o _ 3 1 _ (by omega), o _ 2 1 _ (by omega)]; exact World.cell?_setCell_same _ _ _ (by rw [o _ 0 1 _ (by omega)]; exact h1)
  · rw [o _ 4 2 _ (by omega), o _ 3 2 _ (by omega)]; exact World.cell?_setCell_same _ _ _ (by rw [o _ 1 2 _ (by omega), o _ 0 2 _ (by omega)]; exact h2)
  · rw [o _ 4 3 _ (by omega)]; exact World.cell?_setCell_same _ _ _ (by rw [o _ 2 3 _ (by omega), o _ 1 3 _ (by omega), o _ 0 3 _ (by omega)]; exact h3)
  · exact World.cell?_setCell_same _ _ _ (by rw [o _ 3 4 _ (by omega), o _ 2 4 _ (by omega), o _ 1 4 _ (by omega), o _ 0 4 _ (by omega)]; exact h4)
theorem heap_at (W : World) (o : Obj) (n : Nat) (h : n = W.heap.size) : (W.alloc o).drew.heap[n]? = some o := by subst h; exact Array.getElem?_push_size
set_option maxHeartbeats 1000000 in
theorem coreOf_any (pc : Int) (g cap : Nat) (r : List Int) (w : World) (h4 : r.length = 4) (hg : g < w.heap.size) (hc : ∀ i (n : Int), r[i]? = some n → w.cell? ⟨g, i, none⟩ = some (.int .i64 n)) :
    Calls Try.prog 35 #[cpu pc (.slice (some ⟨g, 0, none⟩) 4 cap)] w fun e w' => e = .returned (core pc r) ∧ Below w.heap.size w w' := by
  obtain ⟨r0, r1, r2, r3, rfl⟩ := four_of h4
  unfold cpu core
  simp only [List.map_cons, List.map_nil, ic]
  obtain ⟨W3, hW3⟩ : ∃ W3, (((w.alloc (.cells #[.int .i64 pc, .slice (some ⟨g, 0, none⟩) 4 cap] 27)).alloc (.cells #[.int .i64 0, .int .i64 0, .int .i64 0, .int .i64 0, .int .i64 0] 65)).alloc (.cells #[.int .i64 pc, .int .i64 0, .int .i64 0, .int .i64 0, .int .i64 0] 65)) = W3 := ⟨_, rfl⟩
  have hsz : W3.heap.size = w.heap.size + 3 := by rw [← hW3]; simp
  have hB0 : Below w.heap.size w W3 := by rw [← hW3]; exact (((Below.refl _ w).alloc (Nat.le_refl _) _).alloc (by simp) _).alloc (by simp; omega) _
  have k1 : W3.cell? ⟨w.heap.size, 1, none⟩ = some (.slice (some ⟨g, 0, none⟩) 4 cap) := by rw [← hW3, World.cell?_alloc_lt _ _ _ (by simp; omega), World.cell?_alloc_lt _ _ _ (by simp), World.cell?_alloc_at _ _ _ _ rfl]; rfl
  have p0 : ∀ j, W3.cell? ⟨w.heap.size + 1, j, none⟩ = (#[.int .i64 0, .int .i64 0, .int .i64 0, .int .i64 0, .int .i64 0] : Array Value)[j]? := by intro j; rw [← hW3, World.cell?_alloc_lt _ _ _ (by simp), World.cell?_alloc_at _ _ _ _ (by simp)]
  have f0 : ∀ j, W3.frozen? ⟨w.heap.size + 1, j, none⟩ = false := by intro j; rw [← hW3, World.frozen?_alloc_past _ _ _ (by simp)]; exact frozen_at _ _ _ _ _ (by simp)
  have hrow : Hid (W3.drew.heap[w.heap.size + 1 + 1]? = some (.cells [.int .i64 pc, .int .i64 0, .int .i64 0, .int .i64 0, .int .i64 0].toArray 65 (0, 0))) := hd (by rw [← hW3]; exact heap_at _ _ _ (by simp))
  have hsrc : Hid (∀ j v, [Value.int .i64 r0, .int .i64 r1, .int .i64 r2, .int .i64 r3][j]? = some v → W3.drew.cell? ((⟨g, 0, none⟩ : Addr).add j) = some v) := hd (by
    have h3 : ∀ j (x : Int), [r0, r1, r2, r3][j]? = some x → W3.drew.cell? ⟨g, 0 + j, none⟩ = some (.int .i64 x) := fun j x hj => by
      rw [Nat.zero_add]
      exact (hB0.drew.cell (p := ⟨g, j, none⟩) hg).trans (hc j x hj)
    exact src h3)
  have hB1 : Hid (Below w.heap.size w W3.drew) := hd hB0.drew
  have hui : (Try.prog.info? 3).map (·.size) = some 1 := by kernel_rfl
  have HW := hd hW3
  clear hc hW3
  go_enter Try.func35, Try.ntmps35
  go_wp2_with fail
  rw [HW.out]
  clear HW
  go_region_law (refine step_copy_splice rfl (.tmp 8) (.tmp 10) 25 25 rfl 3 Try.underlying25 hui (some ⟨w.heap.size + 1 + 1, 1, none⟩) (some ⟨g, 0, none⟩) 4 4 4 cap rfl rfl (w.heap.size + 1 + 1) 1 [.int .i64 pc, .int .i64 0, .int .i64 0, .int .i64 0, .int .i64 0] 65 hrow.out [.int .i64 r0, .int .i64 r1, .int .i64 r2, .int .i64 r3] rfl (fun _ => ⟨rfl, _, rfl, hsrc.out⟩) (by simp) (by simp [Value.oneCell']) (w.heap.size + 1 + 1) W3.drew (Below.refl _ _) (Nat.le_refl _) ?_; intro w4 hg4 hb4)
  all_goals
    have z : ∀ j, w4.cell? ⟨w.heap.size + 1 + 1, j, none⟩ = [Value.int .i64 pc, .int .i64 r0, .int .i64 r1, .int .i64 r2, .int .i64 r3][j]? := fun j => (cell_of hg4.out j).trans (by simp [splice])
    have z0 := z 0
    have z1 := z 1
    have z2 := z 2
    have z3 := z 3
    have z4 := z 4
    simp at z0 z1 z2 z3 z4
    have q : ∀ j, w4.cell? ⟨w.heap.size + 1, j, none⟩ = (#[.int .i64 0, .int .i64 0, .int .i64 0, .int .i64 0, .int .i64 0] : Array Value)[j]? := fun j => (hb4.cell (p := ⟨w.heap.size + 1, j, none⟩) (by simp)).trans (p0 j)
    have q0 := q 0
    have q1 := q 1
    have q2 := q 2
    have q3 := q 3
    have q4 := q 4
    simp at q0 q1 q2 q3 q4
    have qf : ∀ j, w4.frozen? ⟨w.heap.size + 1, j, none⟩ = false := fun j => (hb4.frozen (p := ⟨w.heap.size + 1, j, none⟩) (by simp)).trans (f0 j)
    have HB : Hid (Below w.heap.size w w4) := hd (hB0.drew.trans (hb4.mono (by omega)))
    clear z q p0 f0 hb4 hg4 hB0 hrow hsrc hB1 k1
    obtain ⟨y0, y1, y2, y3, y4⟩ := five (.int .i64 pc) (.int .i64 r0) (.int .i64 r1) (.int .i64 r2) (.int .i64 r3) q0 q1 q2 q3 q4
    go_wp2
    refine bodyPost_ret (v := .agg #[.int .i64 pc, .int .i64 r0, .int .i64 r1, .int .i64 r2, .int .i64 r3]) (by simp [results, Try.results35, go_sem, y0, y1, y2, y3, y4]) rfl ⟨rfl, ?_⟩
    exact ((((HB.out.setCell (p := ⟨w.heap.size + 1, 0, none⟩) (by simp) _).setCell (p := ⟨w.heap.size + 1, 1, none⟩) (by simp) _).setCell (p := ⟨w.heap.size + 1, 2, none⟩) (by simp) _).setCell (p := ⟨w.heap.size + 1, 3, none⟩) (by simp) _).setCell (p := ⟨w.heap.size + 1, 4, none⟩) (by simp) _

end Go.Proofs.Ytcncanfelcjdpaa.CoreI
