/- What spec's drawing of a Cpu answers: some Cpu. Condition: none. -/
import Derived.Test.YtcncanfelcjdpaaDrawV
import Derived.Test.YtcncanfelcjdpaaAppI
import Derived.Test.YtcncanfelcjdpaaCpuC
import Derived.Deep.RegionLaw
import Derived.BigRegion
namespace Go.Proofs.Ytcncanfelcjdpaa.DrawX
open Go.RowKit Go.Deep Num Draw DrawN DrawR InsC InsO ProgC ProgD DrawP DrawQ IntC AppI
open CpuC (cpu two frozen_at)
open DrawV (own_keep own_mono)
set_option maxRecDepth 100000
set_option linter.unusedVariables false
set_option linter.unusedSimpArgs false

/-- The result's cells and the variable's. -/
structure Bx (W : World) (n m : Nat) (pc : Int) (v : Value) : Prop where
  nm : n < m
  lt : m < W.heap.size
  r0 : W.cell? ⟨n, 0, none⟩ = some (.int .i64 0)
  r1 : W.cell? ⟨n, 1, none⟩ = some (.slice none 0 0)
  x0 : W.cell? ⟨m, 0, none⟩ = some (.int .i64 pc)
  x1 : W.cell? ⟨m, 1, none⟩ = some v
  fr : ∀ j, W.frozen? ⟨n, j, none⟩ = false
  fx : ∀ j, W.frozen? ⟨m, j, none⟩ = false
theorem Bx.below {W W' n m pc v} (h : Bx W n m pc v) (hb : Below (m + 1) W W') : Bx W' n m pc v := by
  have hnm := h.nm
  have c : ∀ b j, b < m + 1 → W'.cell? ⟨b, j, none⟩ = W.cell? ⟨b, j, none⟩ := fun b j hj => hb.cell (p := ⟨b, j, none⟩) hj
  have f : ∀ b j, b < m + 1 → W'.frozen? ⟨b, j, none⟩ = W.frozen? ⟨b, j, none⟩ := fun b j hj => hb.frozen (p := ⟨b, j, none⟩) hj
  exact ⟨hnm, Nat.lt_of_lt_of_le h.lt hb.size, (c _ _ (by omega)).trans h.r0, (c _ _ (by omega)).trans h.r1, (c _ _ (by omega)).trans h.x0, (c _ _ (by omega)).trans h.x1, fun j => (f _ _ (by omega)).trans (h.fr j), fun j => (f _ _ (by omega)).trans (h.fx j)⟩
theorem Bx.step {k W g W' n m pc v} (h : Bx W n m pc v) (t : Inv k W g W') (hg : g < n) : Bx W' n m pc v := by
  have hl := h.lt
  have hnm := h.nm
  exact ⟨hnm, Nat.lt_of_lt_of_le h.lt t.size, t.cell (by omega) h.r0, t.cell (by omega) h.r1, t.cell (by omega) h.x0, t.cell (by omega) h.x1, fun j => t.frozen (by omega) (by omega) (h.fr j), fun j => t.frozen (by omega) (by omega) (h.fx j)⟩
theorem Bx.alloc {W n m pc v} (h : Bx W n m pc v) (o : Obj) : Bx (W.alloc o) n m pc v := h.below ((Below.refl _ _).alloc h.lt _)
theorem Bx.drew {W n m pc v} (h : Bx W n m pc v) : Bx W.drew n m pc v := ⟨h.nm, h.lt, h.r0, h.r1, h.x0, h.x1, h.fr, h.fx⟩
theorem Bx.put {W n m pc v} (h : Bx W n m pc v) (u : Value) : Bx (W.setCell ⟨m, 1, none⟩ u) n m pc u := by
  have hnm := h.nm
  have o : ∀ j, (W.setCell ⟨m, 1, none⟩ u).cell? ⟨n, j, none⟩ = W.cell? ⟨n, j, none⟩ := fun j => World.cell?_setCell_other _ _ _ _ (by simp <;> omega)
  exact ⟨hnm, by simpa using h.lt, (o 0).trans h.r0, (o 1).trans h.r1, (World.cell?_setCell_other _ _ _ _ (by simp)).trans h.x0, World.cell?_setCell_same _ _ _ h.x1, fun j => by simpa using h.fr j, fun j => by simpa using h.fx j⟩
theorem Bx.put0 {W n m pc v} (h : Bx W n m pc v) (u : Int) : Bx (W.setCell ⟨m, 0, none⟩ (.int .i64 u)) n m u v := by
  have hnm := h.nm
  have o : ∀ j, (W.setCell ⟨m, 0, none⟩ (.int .i64 u)).cell? ⟨n, j, none⟩ = W.cell? ⟨n, j, none⟩ := fun j => World.cell?_setCell_other _ _ _ _ (by simp <;> omega)
  exact ⟨hnm, by simpa using h.lt, (o 0).trans h.r0, (o 1).trans h.r1, World.cell?_setCell_same _ _ _ h.x0, (World.cell?_setCell_other _ _ _ _ (by simp)).trans h.x1, fun j => by simpa using h.fr j, fun j => by simpa using h.fx j⟩
/-- Behind the first draw. -/
theorem Bx.new {k W g W' n} (t : Inv k W g W') (hg : g < n) (hn : n < W.heap.size) (h0 : W.cell? ⟨n, 0, none⟩ = some (.int .i64 0)) (h1 : W.cell? ⟨n, 1, none⟩ = some (.slice none 0 0)) (hf : ∀ j, W.frozen? ⟨n, j, none⟩ = false) (pc : Int) :
    Bx (W'.alloc (.cells #[.int .i64 pc, .slice none 0 0] 27)) n W'.heap.size pc (.slice none 0 0) := by
  have hl := Nat.lt_of_lt_of_le hn t.size
  refine ⟨hl, by simp, ?_, ?_, ?_, ?_, ?_, ?_⟩
  · rw [World.cell?_alloc_lt _ _ _ hl]; exact t.cell (by omega) h0
  · rw [World.cell?_alloc_lt _ _ _ hl]; exact t.cell (by omega) h1
  · rw [World.cell?_alloc_at _ _ _ _ rfl]; rfl
  · rw [World.cell?_alloc_at _ _ _ _ rfl]; rfl
  · intro j; rw [World.frozen?_alloc_past _ _ _ hl]; exact t.frozen (by omega) hn (hf j)
  · intro j; exact frozen_at _ _ _ _ _ rfl
theorem Inv.drew {k w g w1} (c : On k w g) (h : Inv k w g w1) : Inv k w g w1.drew := h.below c (Below.refl _ _).drew
def tc8 : List Int := [0, 1, 2, 3, 7, -1, 1000000, 5]
theorem tc8_cells (W : World) : ∀ j, j < tc8.length → (W.alloc (.cells #[.int .i64 0, .int .i64 1, .int .i64 2, .int .i64 3, .int .i64 7, .int .i64 (-1), .int .i64 1000000, .int .i64 5] 3)).cell? ⟨W.heap.size, j, none⟩ = some (.int .i64 (tc8.getD j 0)) := by
  intro j hj
  have : j = 0 ∨ j = 1 ∨ j = 2 ∨ j = 3 ∨ j = 4 ∨ j = 5 ∨ j = 6 ∨ j = 7 := by simp [tc8] at hj; omega
  rcases this with rfl | rfl | rfl | rfl | rfl | rfl | rfl | rfl <;> simp [tc8]
def tc3 : List Int := [-1, 40, 41]
theorem tc3_cells (W : World) : ∀ j, j < tc3.length → (W.alloc (.cells #[.int .i64 (-1), .int .i64 40, .int .i64 41] 3)).cell? ⟨W.heap.size, j, none⟩ = some (.int .i64 (tc3.getD j 0)) := by
  intro j hj
  have : j = 0 ∨ j = 1 ∨ j = 2 := by simp [tc3] at hj; omega
  rcases this with rfl | rfl | rfl <;> simp [tc3]
def tc2 : List Int := [-1000000, 1000001]
theorem tc2_cells (W : World) : ∀ j, j < tc2.length → (W.alloc (.cells #[.int .i64 (-1000000), .int .i64 1000001] 3)).cell? ⟨W.heap.size, j, none⟩ = some (.int .i64 (tc2.getD j 0)) := by
  intro j hj
  have : j = 0 ∨ j = 1 := by simp [tc2] at hj; omega
  rcases this with rfl | rfl <;> simp [tc2]
theorem one_cell (W : World) (x : Int) : ∀ j (b : Int), [x][j]? = some b → (W.alloc (.cells #[.int .i64 x] 3)).cell? ⟨W.heap.size, 0 + j, none⟩ = some (.int .i64 b) := by
  intro j b hj
  have : j = 0 := by have := (List.getElem?_eq_some_iff.1 hj).1; simp at this; omega
  subst this
  simp at hj
  subst hj
  simp

/-- What drawing a Cpu answers. -/
def CpuPost (k : Fx) (w : World) (g : Nat) (e : Ending) (w' : World) : Prop :=
  ∃ (pc : Int) (v : Value) (r : List Int), e = .returned (cpu pc v) ∧ r.length ≤ 4 ∧ w'.ownsRow w.heap.size 3 1 v r.length (r.map ic) ∧ Inv k w g w'

theorem inv_drew {k w g w1} (c : On k w g) (h : Inv k w g w1) : Inv k w g w1.drew := h.below c (Below.refl _ _).drew
theorem inv_alloc {k w g w1} (c : On k w g) (h : Inv k w g w1) (o : Obj) : Inv k w g (w1.alloc o) := h.below c ((Below.refl _ _).alloc h.size _)
theorem inv_set {k w g w1 b j v} (c : On k w g) (h : Inv k w g w1) (hb : w.heap.size ≤ b) : Inv k w g (w1.setCell ⟨b, j, none⟩ v) := h.below c ((Below.refl _ _).setCell (p := ⟨b, j, none⟩) hb _)
theorem own_set' {W : World} {B e s b j : Nat} {v x : Value} {n : Nat} {xs : List Value} (h : W.ownsRow B e s v n xs) (hb : b < B) : (W.setCell ⟨b, j, none⟩ x).ownsRow B e s v n xs := own_keep h (Draw.grown_setCell W b j x) hb
theorem own_drew' {W : World} {B e s : Nat} {v : Value} {n : Nat} {xs : List Value} (h : W.ownsRow B e s v n xs) : W.drew.ownsRow B e s v n xs := h
theorem own_take {W : World} {B g cap : Nat} {r : List Int} (h : W.ownsRow B 3 1 (.slice (some ⟨g, 0, none⟩) 4 cap) 4 (r.map ic)) : W.ownsRow B 3 1 (.slice (some ⟨g, 0, none⟩) 3 cap) (r.take 3).length ((r.take 3).map ic) ∧ 4 ≤ cap := by
  have hl : r.length = 4 := by have := h.1; simpa using this
  rcases h.2 with ⟨e, _⟩ | ⟨g', cap', cur, e, hB, hg, h1, h2, h3, h5⟩
  · simp at e
  · simp at e
    obtain ⟨rfl, rfl⟩ := e
    have h3l : (r.take 3).length = 3 := by simp [hl]
    refine ⟨⟨by simp, .inr ⟨g, cap, cur, by rw [h3l], hB, hg, by omega, h2, h3, ?_⟩⟩, h1⟩
    rw [h3l, List.map_take, ← h5, List.take_take]; rfl
theorem tail_any {k : Fx} {w : World} {g : Nat} {wr : World} {n m : Nat} {pc : Int} {r : List Int} {a : Option Addr} {cp : Nat} (hn : n = w.heap.size) (c : On k w g) (hB : Bx wr n m pc (.slice a r.length cp)) (hl : r.length ≤ 4) (ho : wr.ownsRow (m + 1) 3 1 (.slice a r.length cp) r.length (r.map ic)) (I : Inv k w g wr) :
    CpuPost k w g (.returned (.agg #[.int .i64 pc, .slice a r.length cp])) ((wr.setCell ⟨n, 0, none⟩ (.int .i64 pc)).setCell ⟨n, 1, none⟩ (.slice a r.length cp)) := by
  subst hn
  have hnm := hB.nm
  exact ⟨pc, _, r, rfl, hl, own_mono (own_set' (own_set' ho (by omega)) (by omega)) (by omega), inv_set c (inv_set c I (Nat.le_refl _)) (Nat.le_refl _)⟩

set_option maxHeartbeats 4000000 in
theorem regs_any (k : Fx) (w : World) (g : Nat) (c : On k w g) :
    Calls Try.prog 27 #[.pointer (some ⟨g, 0, none⟩)] w fun e w' => CpuPost k w g e w' := by
  have hgl := c.lt
  have HC := hd c
  have I0 : Inv k w g (w.alloc (.cells #[.int .i64 0, .slice none 0 0] 27)) := (Inv.refl c).below c ((Below.refl _ _).alloc (Nat.le_refl _) _)
  clear c
  go_enter Try.func27, Try.ntmps27
  go_wp2_with (go_at_call 28; fail)
  refine (below_E k _ g 8 I0.1 (by omega) (by omega)).mono ?_
  rintro e w1 ⟨pc, x0, x1, rfl, t1⟩
  have HB := hd (Bx.new (n := w.heap.size) t1 hgl (by simp) (by simp) (by simp) (by simp) pc)
  have HI := hd (inv_alloc HC.out (I0.trans t1) (.cells #[.int .i64 pc, .slice none 0 0] 27))
  clear I0 t1 x0 x1
  obtain ⟨n, hn⟩ : ∃ n, n = w.heap.size := ⟨_, rfl⟩
  rw [← hn] at HB ⊢
  have HN := hd hn
  have hgn : g < n := by omega
  clear hn
  go_wp2_with fail
  obtain ⟨m, hm⟩ : ∃ m, m = w1.heap.size := ⟨_, rfl⟩
  rw [← hm] at HB ⊢
  clear hm
  go_loopw [4] (fun iv wr => ∃ (i : Nat) (r : List Int) (a : Option Addr) (cp : Nat), i ≤ 4 ∧ iv = .int .i64 i ∧ Hid (r.length = i) ∧ Hid (Bx wr n m pc (.slice a r.length cp)) ∧ Hid (wr.ownsRow (m + 1) 3 1 (.slice a r.length cp) r.length (r.map ic)) ∧ Hid (Inv k w g wr)) (fun iv _ => 4 - (intOf iv).toNat)
  case atStart => exact ⟨0, [], none, 0, by omega, rfl, hd rfl, HB, hd (World.ownsRow_nil _ _ _ _), HI⟩
  case round =>
    clear HB HI
    obtain ⟨i, r, a, cp, hi, rfl, hri, HB, HO, HI⟩ := hrel
    by_cases hlt : i < 4
    · have hi4 : (i : Int) < 4 := by omega
      obtain ⟨hnm, hlm, r0, r1, x0, x1, fr, fx⟩ := HB.out
      have HNM : Hid (w.heap.size ≤ m + 1) := hd (by have := HN.out; omega)
      have hrl : r.length ≤ 4 := by have := hri.out; omega
      have HP := hd (pick_E k (wr.alloc (.cells #[.int .i64 0, .int .i64 1, .int .i64 2, .int .i64 3, .int .i64 7, .int .i64 (-1), .int .i64 1000000, .int .i64 5] 3)).drew g (inv_drew HC.out (inv_alloc HC.out HI.out _)).1 wr.heap.size 8 tc8 (by omega) rfl (by omega) (by omega) (tc8_cells wr))
      go_wp2_with fail
      go_region_law (first
        | (refine step_append_ints rfl _ _ rfl (m + 1) _ r r.length rfl rfl (HO4.out.alloc _) w4.heap.size 0 [x4] 1 1 rfl rfl (one_cell w4 x4) HL4.out HM4.out ?_; intro v5 w5 hown5 hb5 _; have HX5 := hd ((HX4.out.alloc _).below hb5); have HI5 := hd ((inv_alloc HC.out HI4.out _).below HC.out (hb5.mono HNM.out)); have HO5 := hd hown5; obtain ⟨a5, c5, rfl⟩ := CpuC.own_slice hown5; clear hown5 hb5; obtain ⟨_, _, s0, s1, y0, y1, gr, gx⟩ := HX5.out)
        | (go_simp; go_at_call 30; refine HP.out.mono ?_; rintro e w4 ⟨x4, rfl, t4⟩; have HO4 := hd (own_keep (own_drew' (HO.out.alloc (.cells #[.int .i64 0, .int .i64 1, .int .i64 2, .int .i64 3, .int .i64 7, .int .i64 (-1), .int .i64 1000000, .int .i64 5] 3))) t4.2 (show g < m + 1 by omega)); have HX4 := hd (((HB.out.alloc (.cells #[.int .i64 0, .int .i64 1, .int .i64 2, .int .i64 3, .int .i64 7, .int .i64 (-1), .int .i64 1000000, .int .i64 5] 3)).drew).step t4 hgn); have HI4 := hd ((inv_drew HC.out (inv_alloc HC.out HI.out (.cells #[.int .i64 0, .int .i64 1, .int .i64 2, .int .i64 3, .int .i64 7, .int .i64 (-1), .int .i64 1000000, .int .i64 5] 3))).trans t4); have HL4 : Hid (r.length + [x4].length ≤ 1048576) := hd (by simp; omega); have HM4 : Hid (m + 1 ≤ (w4.alloc (.cells #[.int .i64 x4] 3)).heap.size) := hd (by have := HX4.out.lt; simp; omega); have hm4 := HX4.out.lt; have z4 := HX4.out.x1; clear t4))
      all_goals
        go_wp2
        go_roundw
        case rel => exact ⟨i + 1, r ++ [x4], a5, c5, by omega, by go_num, hd (by have := hri.out; simp; omega), hd (by have := HX5.out.put (.slice a5 (r.length + 1) c5); simpa using this), hd (own_set' HO5.out (by omega)), hd (inv_set HC.out HI5.out (by have := HN.out; omega))⟩
        case measure => simp [intOf]; omega
    · obtain rfl : i = 4 := by omega
      have hi4 : decide ((4 : Int) < 4) = false := by simp
      go_wp2_with (go_at_call 29; fail)
      refine (once_E k wr g 10 HI.out.1 (by omega)).mono ?_
      rintro e w2 ⟨b2, rfl, t2⟩
      have hr4 : r.length ≤ 4 := by have := hri.out; omega
      obtain ⟨hnm, hlm, _⟩ := HB.out
      have HO2 := hd (own_keep HO.out t2.2 (show g < m + 1 by omega))
      have HB2 := hd (HB.out.step t2 hgn)
      have HI2 := hd (HI.out.trans t2)
      clear t2 HO HB HI
      cases b2
      · obtain ⟨_, _, r0, r1, x0, x1, fr, fx⟩ := HB2.out
        obtain ⟨z0, z1⟩ := two (.int .i64 pc) (.slice a r.length cp) r0 r1
        go_wp2
        exact bodyPost_ret (v := .agg #[.int .i64 pc, .slice a r.length cp]) (by simp [results, Try.results27, go_sem, z0, z1]) rfl (tail_any HN.out HC.out HB2.out hr4 HO2.out HI2.out)
      · go_wp2_with (go_at_call 28; fail)
        refine (below_E k _ g 3 HI2.out.1 (by omega) (by omega)).mono ?_
        rintro e w3 ⟨s, s0, s1, rfl, t3⟩
        have HO3 := hd (own_keep HO2.out t3.2 (show g < m + 1 by omega))
        have HB3 := hd (HB2.out.step t3 hgn)
        have HI3 := hd (HI2.out.trans t3)
        clear t3 HO2 HB2 HI2
        have hl3w := HB3.out.lt
        have hs : s = 0 ∨ s = 1 ∨ (¬ s = 0 ∧ ¬ s = 1) := by omega
        rcases hs with rfl | rfl | ⟨hs0, hs1⟩
        · have HP := hd (pick_E k (w3.alloc (.cells #[.int .i64 (-1), .int .i64 40, .int .i64 41] 3)) g (inv_alloc HC.out HI3.out _).1 w3.heap.size 3 tc3 (by omega) rfl (by omega) (by omega) (tc3_cells w3))
          go_wp2_with (go_at_call 30; fail)
          refine HP.out.mono ?_
          rintro e w4 ⟨x4, rfl, t4⟩
          have HO4 := hd (own_set' (j := 0) (x := .int .i64 x4) (own_keep (HO3.out.alloc (.cells #[.int .i64 (-1), .int .i64 40, .int .i64 41] 3)) t4.2 (show g < m + 1 by omega)) (Nat.lt_succ_self m))
          have HB4 := hd (((HB3.out.alloc (.cells #[.int .i64 (-1), .int .i64 40, .int .i64 41] 3)).step t4 hgn).put0 x4)
          have HI4 := hd (inv_set (j := 0) (v := .int .i64 x4) HC.out ((inv_alloc HC.out HI3.out (.cells #[.int .i64 (-1), .int .i64 40, .int .i64 41] 3)).trans t4) (show w.heap.size ≤ m by have := HN.out; omega))
          obtain ⟨_, _, q0, q1, y0, y1, gr, gx⟩ := ((HB3.out.alloc (.cells #[.int .i64 (-1), .int .i64 40, .int .i64 41] 3)).step t4 hgn)
          obtain ⟨_, _, r0, r1, x0, x1, fr, fx⟩ := HB4.out
          obtain ⟨z0, z1⟩ := two (.int .i64 x4) (.slice a r.length cp) r0 r1
          clear t4 HP HO3 HB3 HI3
          go_wp2
          exact bodyPost_ret (v := .agg #[.int .i64 x4, .slice a r.length cp]) (by simp [results, Try.results27, go_sem, z0, z1]) rfl (tail_any HN.out HC.out HB4.out hr4 HO4.out HI4.out)
        · obtain ⟨gg, hgg⟩ : ∃ gg, a = some ⟨gg, 0, none⟩ := by
            rcases HO3.out.2 with ⟨e, h0⟩ | ⟨gg, _, _, e, _⟩
            · have := hri.out; omega
            · simp at e; exact ⟨gg, e.1⟩
          subst hgg
          have ht := HO3.out
          rw [hri.out] at ht
          obtain ⟨hO, hcap⟩ := own_take ht
          clear ht
          have h3l : (r.take 3).length = 3 := by have := hri.out; simp; omega
          have HO4 := hd (own_set' (j := 1) (x := .slice (some ⟨gg, 0, none⟩) 3 cp) hO (Nat.lt_succ_self m))
          have HB4 := hd (HB3.out.put (.slice (some ⟨gg, 0, none⟩) 3 cp))
          have HI4 := hd (inv_set (j := 1) (v := .slice (some ⟨gg, 0, none⟩) 3 cp) HC.out HI3.out (show w.heap.size ≤ m by have := HN.out; omega))
          obtain ⟨_, _, q0, q1, y0, y1, gr, gx⟩ := HB3.out
          obtain ⟨_, _, r0, r1, x0, x1, fr, fx⟩ := HB4.out
          obtain ⟨z0, z1⟩ := two (.int .i64 pc) (.slice (some ⟨gg, 0, none⟩) 3 cp) r0 r1
          have hc3 : (3 : Int) ≤ cp := by omega
          have hc0 : ¬ cp = 0 := by omega
          have H3 := hd h3l
          clear hO h3l HO3 HB3 HI3 hcap
          go_wp2
          have hT := tail_any (a := some ⟨gg, 0, none⟩) (cp := cp) (r := r.take 3) HN.out HC.out (by rw [H3.out]; exact HB4.out) (by rw [H3.out]; omega) (by have := HO4.out; rw [H3.out] at this ⊢; exact this) HI4.out
          rw [H3.out] at hT
          exact bodyPost_ret (v := .agg #[.int .i64 pc, .slice (some ⟨gg, 0, none⟩) 3 cp]) (by simp [results, Try.results27, go_sem, z0, z1]) rfl hT
        · obtain ⟨gg, hgg⟩ : ∃ gg, a = some ⟨gg, 0, none⟩ := by
            rcases HO3.out.2 with ⟨e, h0⟩ | ⟨gg, _, _, e, _⟩
            · have := hri.out; omega
            · simp at e; exact ⟨gg, e.1⟩
          subst hgg
          have hlen : 0 < r.length := by have := hri.out; omega
          have HP := hd (pick_E k (w3.alloc (.cells #[.int .i64 (-1000000), .int .i64 1000001] 3)).drew g (inv_drew HC.out (inv_alloc HC.out HI3.out _)).1 w3.heap.size 2 tc2 (by omega) rfl (by omega) (by omega) (tc2_cells w3))
          obtain ⟨_, hl3, q0, q1, y0, y1, gr, gx⟩ := HB3.out
          have hz0 : (0 : Int) < r.length := by omega
          have hgB : m + 1 ≤ gg := by
            rcases HO3.out.2 with ⟨e, _⟩ | ⟨gg', _, _, e, hB, _⟩
            · simp at e
            · simp at e; obtain ⟨rfl, _⟩ := e; exact hB
          go_wp2_with fail
          go_region_with (go_at_call 30; refine HP.out.mono ?_; rintro e w4 ⟨x4, rfl, t4⟩; have hO4 := own_keep (own_drew' (HO3.out.alloc (.cells #[.int .i64 (-1000000), .int .i64 1000001] 3))) t4.2 (show g < m + 1 by omega); have hB4 := ((HB3.out.alloc (.cells #[.int .i64 (-1000000), .int .i64 1000001] 3)).drew).step t4 hgn; have HO5 := hd (hO4.stored 0 (.int .i64 x4)).1; have HB5 := hd (hB4.below ((Below.refl _ _).setCell (p := ⟨gg, 0, none⟩) hgB (.int .i64 x4))); have HI5 := hd (inv_set (b := gg) (j := 0) (v := .int .i64 x4) HC.out ((inv_drew HC.out (inv_alloc HC.out HI3.out (.cells #[.int .i64 (-1000000), .int .i64 1000001] 3))).trans t4) (show w.heap.size ≤ gg by have := HN.out; omega)); obtain ⟨u4, hu4⟩ : ∃ u, w4.cell? ⟨gg, 0, none⟩ = some u := ⟨_, (hO4.cellAt 0 (by omega)).trans (List.getElem?_eq_getElem (by simp; omega))⟩; have hf4 := hO4.frozenAt 0; have z4 := hB4.x1; clear t4 hO4 hB4)
          all_goals
            obtain ⟨_, _, r0, r1, x0, x1, fr, fx⟩ := HB5.out
            obtain ⟨z0, z1⟩ := two (.int .i64 pc) (.slice (some ⟨gg, 0, none⟩) r.length cp) r0 r1
            have HT := hd (tail_any (r := r.set 0 x4) HN.out HC.out (by rw [List.length_set]; exact HB5.out) (by rw [List.length_set]; exact hr4) (by rw [List.length_set, List.map_set]; exact HO5.out) HI5.out)
            clear HO3 HB3 HI3 HP
            go_wp2
            have hT := HT.out
            rw [List.length_set] at hT
            exact bodyPost_ret (v := .agg #[.int .i64 pc, .slice (some ⟨gg, 0, none⟩) r.length cp]) (by simp [results, Try.results27, go_sem, z0, z1]) rfl hT

end Go.Proofs.Ytcncanfelcjdpaa.DrawX
