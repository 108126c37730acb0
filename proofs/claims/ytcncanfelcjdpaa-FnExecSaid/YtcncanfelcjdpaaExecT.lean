/- What spec's Exec answers. Condition: none. -/
import Derived.Test.YtcncanfelcjdpaaExecS
import Derived.Deep.RegionWith
import Derived.Deep.RegionLaw
import Derived.BigRegion
namespace Go.Proofs.Ytcncanfelcjdpaa.ExecT
open Go.RowKit Go.Deep Num InsC InsO ProgC ProgD IntC CpuC CpuS ReadB ExecA ExecS
set_option maxRecDepth 100000
set_option linter.unusedVariables false
set_option linter.unusedSimpArgs false

/-- The three blocks that Exec lays at its start. -/
structure Fr (W : World) (n : Nat) (pc : Int) (v : Value) : Prop where
  lt : n + 1 + 1 < W.heap.size
  a0 : W.cell? ⟨n, 0, none⟩ = some (.int .i64 pc)
  a1 : W.cell? ⟨n, 1, none⟩ = some v
  b0 : W.cell? ⟨n + 1, 0, none⟩ = some (.int .i64 0)
  b1 : W.cell? ⟨n + 1, 1, none⟩ = some (.slice none 0 0)
  c0 : W.cell? ⟨n + 1 + 1, 0, none⟩ = some (.int .i64 0)
  c1 : W.cell? ⟨n + 1 + 1, 1, none⟩ = some (.int .i64 0)
  c2 : W.cell? ⟨n + 1 + 1, 2, none⟩ = some (.int .i64 0)
  c3 : W.cell? ⟨n + 1 + 1, 3, none⟩ = some (.int .i64 0)
  fb : ∀ j, W.frozen? ⟨n + 1, j, none⟩ = false
  fc : ∀ j, W.frozen? ⟨n + 1 + 1, j, none⟩ = false
theorem Fr.below {W W' n pc v} (h : Fr W n pc v) (hb : Below W.heap.size W W') : Fr W' n pc v := by
  have hl := h.lt
  have g : ∀ b j x, b ≤ n + 1 + 1 → W.cell? ⟨b, j, none⟩ = some x → W'.cell? ⟨b, j, none⟩ = some x := fun b j x hb' hx => (hb.cell (p := ⟨b, j, none⟩) (by simp; omega)).trans hx
  have f : ∀ b j, b ≤ n + 1 + 1 → W.frozen? ⟨b, j, none⟩ = false → W'.frozen? ⟨b, j, none⟩ = false := fun b j hb' hx => (hb.frozen (p := ⟨b, j, none⟩) (by simp; omega)).trans hx
  exact ⟨Nat.lt_of_lt_of_le hl hb.size, g _ _ _ (by omega) h.a0, g _ _ _ (by omega) h.a1, g _ _ _ (by omega) h.b0, g _ _ _ (by omega) h.b1, g _ _ _ (by omega) h.c0, g _ _ _ (by omega) h.c1, g _ _ _ (by omega) h.c2, g _ _ _ (by omega) h.c3, fun j => f _ _ (by omega) (h.fb j), fun j => f _ _ (by omega) (h.fc j)⟩
theorem Fr.new (w : World) (pc : Int) (v : Value) : Fr (((w.alloc (.cells #[.int .i64 pc, v] 27)).alloc (.cells #[.int .i64 0, .slice none 0 0] 27)).alloc (.cells #[.int .i64 0, .int .i64 0, .int .i64 0, .int .i64 0] 31)) w.heap.size pc v := by
  refine ⟨by simp, ?_, ?_, ?_, ?_, ?_, ?_, ?_, ?_, ?_, ?_⟩
  · rw [World.cell?_alloc_lt _ _ _ (by simp; omega), World.cell?_alloc_lt _ _ _ (by simp), World.cell?_alloc_at _ _ _ _ rfl]; rfl
  · rw [World.cell?_alloc_lt _ _ _ (by simp; omega), World.cell?_alloc_lt _ _ _ (by simp), World.cell?_alloc_at _ _ _ _ rfl]; rfl
  · rw [World.cell?_alloc_lt _ _ _ (by simp), World.cell?_alloc_at _ _ _ _ (by simp)]; rfl
  · rw [World.cell?_alloc_lt _ _ _ (by simp), World.cell?_alloc_at _ _ _ _ (by simp)]; rfl
  · rw [World.cell?_alloc_at _ _ _ _ (by simp)]; rfl
  · rw [World.cell?_alloc_at _ _ _ _ (by simp)]; rfl
  · rw [World.cell?_alloc_at _ _ _ _ (by simp)]; rfl
  · rw [World.cell?_alloc_at _ _ _ _ (by simp)]; rfl
  · intro j; rw [World.frozen?_alloc_past _ _ _ (by simp)]; exact frozen_at _ _ _ _ _ (by simp)
  · intro j; exact frozen_at _ _ _ _ _ (by simp)
/-- Both answers laid: what is read there. -/
def six (W : World) (n : Nat) (x0 x1 y0 y1 y2 y3 : Value) : World := (((((W.setCell ⟨n + 1, 0, none⟩ x0).setCell ⟨n + 1, 1, none⟩ x1).setCell ⟨n + 1 + 1, 0, none⟩ y0).setCell ⟨n + 1 + 1, 1, none⟩ y1).setCell ⟨n + 1 + 1, 2, none⟩ y2).setCell ⟨n + 1 + 1, 3, none⟩ y3
theorem Fr.six {W n pc v} (h : Fr W n pc v) (x0 x1 y0 y1 y2 y3 : Value) :
    (ExecT.six W n x0 x1 y0 y1 y2 y3).cell? ⟨n + 1, 0, none⟩ = some x0 ∧ (ExecT.six W n x0 x1 y0 y1 y2 y3).cell? ⟨n + 1, 1, none⟩ = some x1 ∧ (ExecT.six W n x0 x1 y0 y1 y2 y3).cell? ⟨n + 1 + 1, 0, none⟩ = some y0 ∧
    (ExecT.six W n x0 x1 y0 y1 y2 y3).cell? ⟨n + 1 + 1, 1, none⟩ = some y1 ∧ (ExecT.six W n x0 x1 y0 y1 y2 y3).cell? ⟨n + 1 + 1, 2, none⟩ = some y2 ∧ (ExecT.six W n x0 x1 y0 y1 y2 y3).cell? ⟨n + 1 + 1, 3, none⟩ = some y3 := by
  obtain ⟨t0, t1⟩ := two x0 x1 h.b0 h.b1
  have o : ∀ j, ((W.setCell ⟨n + 1, 0, none⟩ x0).setCell ⟨n + 1, 1, none⟩ x1).cell? ⟨n + 1 + 1, j, none⟩ = W.cell? ⟨n + 1 + 1, j, none⟩ := fun j => (World.cell?_setCell_other _ _ _ _ (by simp)).trans (World.cell?_setCell_other _ _ _ _ (by simp))
  obtain ⟨f0, f1, f2, f3⟩ := four y0 y1 y2 y3 ((o 0).trans h.c0) ((o 1).trans h.c1) ((o 2).trans h.c2) ((o 3).trans h.c3)
  have q : ∀ j, (ExecT.six W n x0 x1 y0 y1 y2 y3).cell? ⟨n + 1, j, none⟩ = ((W.setCell ⟨n + 1, 0, none⟩ x0).setCell ⟨n + 1, 1, none⟩ x1).cell? ⟨n + 1, j, none⟩ := fun j =>
    (World.cell?_setCell_other _ _ _ _ (by simp)).trans ((World.cell?_setCell_other _ _ _ _ (by simp)).trans ((World.cell?_setCell_other _ _ _ _ (by simp)).trans (World.cell?_setCell_other _ _ _ _ (by simp))))
  exact ⟨(q 0).trans t0, (q 1).trans t1, f0, f1, f2, f3⟩
theorem six_below {w W : World} (hb : Below w.heap.size w W) (x0 x1 y0 y1 y2 y3 : Value) : Below w.heap.size w (six W w.heap.size x0 x1 y0 y1 y2 y3) :=
  (((((hb.setCell (p := ⟨w.heap.size + 1, 0, none⟩) (by simp) _).setCell (p := ⟨w.heap.size + 1, 1, none⟩) (by simp) _).setCell (p := ⟨w.heap.size + 1 + 1, 0, none⟩) (by simp; omega) _).setCell (p := ⟨w.heap.size + 1 + 1, 1, none⟩) (by simp; omega) _).setCell (p := ⟨w.heap.size + 1 + 1, 2, none⟩) (by simp; omega) _).setCell (p := ⟨w.heap.size + 1 + 1, 3, none⟩) (by simp; omega) _
theorem ints_slice {w : World} {v : Value} {l : List Int} (h : Ints w v l) : ∃ a c, v = .slice a l.length c := by
  rcases h with ⟨rfl, rfl⟩ | ⟨g, c, rfl, _⟩
  · exact ⟨_, _, rfl⟩
  · exact ⟨_, _, rfl⟩
theorem exec_no {p : List Q} {pc : Int} {r mem : List Int} (h : okX p pc r mem = false) : execX p pc r mem = (0, [], 2, -1, 0, 0) := by unfold execX; rw [if_neg (by simp [h])]
/-- The refusal's own end: zeros laid, nothing owned. -/
theorem no_post (w : World) (W : World) (p : List Q) (pc : Int) (r mem : List Int) (h : okX p pc r mem = false) :
    ExecPost (execX p pc r mem) w (.returned (.tuple #[.agg #[.int .i64 0, .slice none 0 0], .agg #[.int .i64 2, .int .i64 (-1), .int .i64 0, .int .i64 0]])) W := by
  rw [exec_no h]
  exact ⟨.slice none 0 0, rfl, World.ownsRow_nil _ _ _ _⟩

set_option maxHeartbeats 1000000 in
theorem no_prog (pv v mv : Value) (p : List Q) (pc : Int) (r mem : List Int) (w : World) (hL : Lies w pv p) (hC : Ints w v r) (hM : Ints w mv mem) (hp : p.length ≤ 1048576) (hok : progB p = false) :
    Calls Try.prog 9 #[pv, cpu pc v, mv] w fun e w' => ExecPost (execX p pc r mem) w e w' ∧ Below w.heap.size w w' := by
  have HN := hd (fun W => no_post w W p pc r mem (by unfold okX; rw [hok]; rfl))
  obtain ⟨a, c, rfl⟩ := ints_slice hC
  have hb0 : Below w.heap.size w (((w.alloc (.cells #[.int .i64 pc, .slice a r.length c] 27)).alloc (.cells #[.int .i64 0, .slice none 0 0] 27)).alloc (.cells #[.int .i64 0, .int .i64 0, .int .i64 0, .int .i64 0] 31)) := (((Below.refl _ w).alloc (Nat.le_refl _) _).alloc (by simp) _).alloc (by simp; omega) _
  have hF := Fr.new w pc (.slice a r.length c)
  have hpr := ProgD.spec_any _ _ _ (hL.below hb0) hp
  rw [hok] at hpr
  unfold cpu
  clear hL hC hM hok
  go_enter Try.func9, Try.ntmps9
  go_wp2_with (go_at_call 38; fail)
  refine hpr.mono ?_
  rintro e w1 ⟨rfl, hb1⟩
  have hF1 := hF.below hb1
  have hbe := hb0.trans (hb1.mono hb0.size)
  have H6 := hd (hF1.six (.int .i64 0) (.slice none 0 0) (.int .i64 2) (.int .i64 (-1)) (.int .i64 0) (.int .i64 0))
  obtain ⟨_, a0, a1, b0, b1, c0, c1, c2, c3, fb, fc⟩ := hF1
  clear hpr hF
  go_wp2
  obtain ⟨z0, z1, z2, z3, z4, z5⟩ := H6.out
  unfold six at z0 z1 z2 z3 z4 z5
  exact bodyPost_ret (v := .tuple #[.agg #[.int .i64 0, .slice none 0 0], .agg #[.int .i64 2, .int .i64 (-1), .int .i64 0, .int .i64 0]]) (by simp [results, Try.results9, go_sem, z0, z1, z2, z3, z4, z5]) rfl ⟨HN.out _, six_below hbe _ _ _ _ _ _⟩

set_option maxHeartbeats 2000000 in
theorem with_prog (pv v mv : Value) (p : List Q) (pc : Int) (r mem : List Int) (w : World) (hL : Lies w pv p) (hC : Ints w v r) (hM : Ints w mv mem) (hp : p.length ≤ 1048576) (hrl : r.length ≤ 1048576) (hml : mem.length ≤ 1048576) (hok : progB p = true) (hno : okX p pc r mem = false) :
    Calls Try.prog 9 #[pv, cpu pc v, mv] w fun e w' => ExecPost (execX p pc r mem) w e w' ∧ Below w.heap.size w w' := by
  have HN := hd (fun W h => no_post w W p pc r mem h)
  have hX : okX p pc r mem = (cpuB pc r && (decide (mem.length ≤ 64) && wordsB mem)) := by unfold okX; rw [hok]; rfl
  obtain ⟨a, c, rfl⟩ := ints_slice hC
  obtain ⟨ma, mc, rfl⟩ := ints_slice hM
  have hb0 : Below w.heap.size w (((w.alloc (.cells #[.int .i64 pc, .slice a r.length c] 27)).alloc (.cells #[.int .i64 0, .slice none 0 0] 27)).alloc (.cells #[.int .i64 0, .int .i64 0, .int .i64 0, .int .i64 0] 31)) := (((Below.refl _ w).alloc (Nat.le_refl _) _).alloc (by simp) _).alloc (by simp; omega) _
  have hF := Fr.new w pc (.slice a r.length c)
  have hpr := ProgD.spec_any _ _ _ (hL.below hb0) hp
  rw [hok] at hpr
  have HL := hd hL
  have HC := hd hC
  have HM := hd hM
  have HP := hd hok
  unfold cpu
  clear hL hC hM hok
  go_enter Try.func9, Try.ntmps9
  go_wp2_with (go_at_call 38; fail)
  refine hpr.mono ?_
  rintro e w1 ⟨rfl, hb1⟩
  have hF1 := hF.below hb1
  have hbe := hb0.trans (hb1.mono hb0.size)
  have hcp := CpuS.spec_any pc _ r w1 (HC.out.below hbe) hrl
  unfold cpu at hcp
  clear hpr hF hb0 hb1
  have k0 := hF1.a0
  have k1 := hF1.a1
  cases hcb : cpuB pc r
  · rw [hcb] at hcp hX
    replace HN := hd (fun W => HN.out W hX)
    go_wp2_with (go_at_call 11; fail)
    refine hcp.mono ?_
    rintro e w2 ⟨rfl, hb2⟩
    replace hF1 := hF1.below hb2
    replace hbe := hbe.trans (hb2.mono hbe.size)
    clear hcp k0 k1 hb2
    have H6 := hd (hF1.six (.int .i64 0) (.slice none 0 0) (.int .i64 2) (.int .i64 (-1)) (.int .i64 0) (.int .i64 0))
    obtain ⟨_, a0, a1, b0, b1, c0, c1, c2, c3, fb, fc⟩ := hF1
    go_wp2
    obtain ⟨z0, z1, z2, z3, z4, z5⟩ := H6.out
    unfold six at z0 z1 z2 z3 z4 z5
    exact bodyPost_ret (v := .tuple #[.agg #[.int .i64 0, .slice none 0 0], .agg #[.int .i64 2, .int .i64 (-1), .int .i64 0, .int .i64 0]]) (by simp [results, Try.results9, go_sem, z0, z1, z2, z3, z4, z5]) rfl ⟨HN.out _, six_below hbe _ _ _ _ _ _⟩
  · rw [hcb] at hcp hX
    go_wp2_with (go_at_call 11; fail)
    refine hcp.mono ?_
    rintro e w2 ⟨rfl, hb2⟩
    replace hF1 := hF1.below hb2
    replace hbe := hbe.trans (hb2.mono hbe.size)
    clear hcp k0 k1 hb2
    have hwm := hd (CpuS.words_any _ mem w2 (HM.out.below hbe) hml)
    by_cases h64 : mem.length ≤ 64
    · have h64' : decide ((64 : Int) < mem.length) = false := by simp; omega
      rw [decide_eq_true h64] at hX
      cases hwb : wordsB mem
      · rw [hwb] at hwm hX
        replace HN := hd (fun W => HN.out W hX)
        have H6 := hd (hF1.six (.int .i64 0) (.slice none 0 0) (.int .i64 2) (.int .i64 (-1)) (.int .i64 0) (.int .i64 0))
        obtain ⟨_, a0, a1, b0, b1, c0, c1, c2, c3, fb, fc⟩ := hF1
        go_wp2_with (go_at_call 39; refine hwm.out.mono ?_; rintro e w' ⟨rfl, rfl⟩)
        obtain ⟨z0, z1, z2, z3, z4, z5⟩ := H6.out
        unfold six at z0 z1 z2 z3 z4 z5
        exact bodyPost_ret (v := .tuple #[.agg #[.int .i64 0, .slice none 0 0], .agg #[.int .i64 2, .int .i64 (-1), .int .i64 0, .int .i64 0]]) (by simp [results, Try.results9, go_sem, z0, z1, z2, z3, z4, z5]) rfl ⟨HN.out _, six_below hbe _ _ _ _ _ _⟩
      · rw [hwb] at hwm hX
        rw [hno] at hX
        simp at hX
    · have h64' : decide ((64 : Int) < mem.length) = true := by simp; omega
      rw [decide_eq_false h64] at hX
      replace HN := hd (fun W => HN.out W hX)
      have H6 := hd (hF1.six (.int .i64 0) (.slice none 0 0) (.int .i64 2) (.int .i64 (-1)) (.int .i64 0) (.int .i64 0))
      obtain ⟨_, a0, a1, b0, b1, c0, c1, c2, c3, fb, fc⟩ := hF1
      go_wp2
      obtain ⟨z0, z1, z2, z3, z4, z5⟩ := H6.out
      unfold six at z0 z1 z2 z3 z4 z5
      exact bodyPost_ret (v := .tuple #[.agg #[.int .i64 0, .slice none 0 0], .agg #[.int .i64 2, .int .i64 (-1), .int .i64 0, .int .i64 0]]) (by simp [results, Try.results9, go_sem, z0, z1, z2, z3, z4, z5]) rfl ⟨HN.out _, six_below hbe _ _ _ _ _ _⟩

theorem spec_no (pv v mv : Value) (p : List Q) (pc : Int) (r mem : List Int) (w : World) (hL : Lies w pv p) (hC : Ints w v r) (hM : Ints w mv mem) (hp : p.length ≤ 1048576) (hrl : r.length ≤ 1048576) (hml : mem.length ≤ 1048576) (hno : okX p pc r mem = false) :
    Calls Try.prog 9 #[pv, cpu pc v, mv] w fun e w' => ExecPost (execX p pc r mem) w e w' ∧ Below w.heap.size w w' := by
  cases hok : progB p
  · exact no_prog pv v mv p pc r mem w hL hC hM hp hok
  · exact with_prog pv v mv p pc r mem w hL hC hM hp hrl hml hok hno

end Go.Proofs.Ytcncanfelcjdpaa.ExecT
