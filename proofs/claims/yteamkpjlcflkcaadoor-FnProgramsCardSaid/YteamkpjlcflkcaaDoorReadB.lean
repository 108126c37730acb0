/- What impl's cutIns answers. Condition: none. -/
import Derived.Test.YteamkpjlcflkcaaDoorReadA
import Derived.Deep.RegionWith
import Derived.Deep.RegionLaw
import Derived.BigRegion
import Derived.Laws.ResultCell
namespace Go.Proofs.YteamkpjlcflkcaaDoor.ReadB
open Go.RowKit Go.Deep Num InsC InsO ProgC InsJ ProgD ReadVar ReadM ReadA
set_option linter.unusedVariables false
set_option linter.unusedSimpArgs false

theorem four {W : World} {g : Nat} {y0 y1 y2 y3 : Value} (v0 v1 v2 v3 : Value) (h0 : W.cell? ⟨g, 0, none⟩ = some y0) (h1 : W.cell? ⟨g, 1, none⟩ = some y1) (h2 : W.cell? ⟨g, 2, none⟩ = some y2) (h3 : W.cell? ⟨g, 3, none⟩ = some y3) :
    ((((W.setCell ⟨g, 0, none⟩ v0).setCell ⟨g, 1, none⟩ v1).setCell ⟨g, 2, none⟩ v2).setCell ⟨g, 3, none⟩ v3).cell? ⟨g, 0, none⟩ = some v0 ∧
    ((((W.setCell ⟨g, 0, none⟩ v0).setCell ⟨g, 1, none⟩ v1).setCell ⟨g, 2, none⟩ v2).setCell ⟨g, 3, none⟩ v3).cell? ⟨g, 1, none⟩ = some v1 ∧
    ((((W.setCell ⟨g, 0, none⟩ v0).setCell ⟨g, 1, none⟩ v1).setCell ⟨g, 2, none⟩ v2).setCell ⟨g, 3, none⟩ v3).cell? ⟨g, 2, none⟩ = some v2 ∧
    ((((W.setCell ⟨g, 0, none⟩ v0).setCell ⟨g, 1, none⟩ v1).setCell ⟨g, 2, none⟩ v2).setCell ⟨g, 3, none⟩ v3).cell? ⟨g, 3, none⟩ = some v3 := by
  have o : ∀ (W : World) (i j : Nat) (v : Value), i ≠ j → (W.setCell ⟨g, i, none⟩ v).cell? ⟨g, j, none⟩ = W.cell? ⟨g, j, none⟩ := fun W i j v h => World.cell?_setCell_other _ _ _ _ (by simp [h])
  refine ⟨?_, ?_, ?_, ?_⟩
  · rw [o _ _ _ _ (by omega), o _ _ _ _ (by omega), o _ _ _ _ (by omega)]; exact World.cell?_setCell_same _ _ _ h0
  · rw [o _ _ _ _ (by omega), o _ _ _ _ (by omega)]; exact World.cell?_setCell_same _ _ _ (by rw [o _ _ _ _ (by omega)]; exact h1)
  · rw [o _ _ _ _ (by omega)]; exact World.cell?_setCell_same _ _ _ (by rw [o _ _ _ _ (by omega), o _ _ _ _ (by omega)]; exact h2)
  · exact World.cell?_setCell_same _ _ _ (by rw [o _ _ _ _ (by omega), o _ _ _ _ (by omega), o _ _ _ _ (by omega)]; exact h3)
/-- What cutIns answers. -/
def CutPost (l : List UInt8) (e : Ending) : Prop :=
  (∃ xs m t, vars 4 l = some (xs, m) ∧ t.data.toList = l.drop m ∧ e = .returned (.tuple #[ins (insOf xs).o (insOf xs).a (insOf xs).b (insOf xs).c, .string t, .bool (Q.ok (insOf xs))])) ∨
  (vars 4 l = none ∧ e = .returned (.tuple #[ins 0 0 0 0, .string ⟨#[]⟩, .bool false]))
theorem range_put (i x : Nat) (f : Nat → Nat) : (List.range (i + 1)).map (fun j => if j = i then x else f j) = (List.range i).map f ++ [x] := by
  rw [List.range_succ, List.map_append]
  congr 1
  · refine List.map_congr_left fun j hj => ?_
    have := List.mem_range.1 hj
    rw [if_neg (by omega)]
  · simp

set_option maxRecDepth 100000 in
set_option maxHeartbeats 1000000 in
theorem cut_any (s : ByteArray) (w : World) (hs : s.size ≤ 1048576) :
    Calls Tryd.prog 46 #[.string s] w fun e w' => CutPost s.data.toList e ∧ Below w.heap.size w w' := by
  go_enter Tryd.func46, Tryd.ntmps46
  go_wp2_with fail
  go_loopw [0, 10] (fun sv iv wr => ∃ (i m : Nat) (t : ByteArray) (f : Nat → Nat), i ≤ 4 ∧ sv = .string t ∧ iv = .int .i64 i ∧ t.size ≤ 1048576 ∧ Hid (t.data.toList = s.data.toList.drop m) ∧ Hid (vars i s.data.toList = some ((List.range i).map f, m)) ∧
      (∀ j, j < 4 → wr.cell? ⟨w.heap.size + 1, j, none⟩ = some (.int .i64 (f j : Int))) ∧ (∀ j, wr.frozen? ⟨w.heap.size + 1, j, none⟩ = false) ∧
      (∀ j, j < 4 → wr.cell? ⟨w.heap.size, j, none⟩ = some (.int .i64 0)) ∧ (∀ j, wr.frozen? ⟨w.heap.size, j, none⟩ = false) ∧ Below w.heap.size w wr)
    (fun _ iv _ => 4 - (intOf iv).toNat)
  case atStart =>
    refine ⟨0, 0, s, fun _ => 0, by omega, rfl, rfl, hs, hd (by simp), hd rfl, ?_, ?_, ?_, ?_, ((Below.refl _ _).alloc (Nat.le_refl _) _).alloc (by simp) _⟩
    · intro j hj
      have : j = 0 ∨ j = 1 ∨ j = 2 ∨ j = 3 := by omega
      rcases this with rfl | rfl | rfl | rfl <;> simp
    · intro j; simp
    · intro j hj
      have : j = 0 ∨ j = 1 ∨ j = 2 ∨ j = 3 := by omega
      rcases this with rfl | rfl | rfl | rfl <;> simp
    · intro j; simp
  case round =>
    obtain ⟨i, m, t, f, hi, rfl, rfl, hts, htl, hv, ha, hfa, hb, hfb, hbel⟩ := hrel
    have hz1 : w.heap.size + 1 < wr.heap.size := World.block_lt_of_cell? wr _ (ha 0 (by omega))
    by_cases hlt : i < 4
    · have hrv := fun w => implRV t w hts
      rw [htl.out] at hrv
      have hst := hd (vars_step hv.out)
      have hsp := hd (vars_stop hv.out)
      have hrl := rv_le (s.data.toList.drop m)
      have hdl : (s.data.toList.drop m).length = t.size := by rw [← htl.out]; simp
      rw [hdl] at hrl
      clear hdl hv
      generalize rv (s.data.toList.drop m) = p at *
      obtain ⟨x, k⟩ := p
      simp only at hrv hst hsp hrl
      obtain ⟨hr1, hr2, hr3⟩ := hrl
      by_cases hk0 : k = 0
      · subst hk0
        have HN : Hid (vars 4 s.data.toList = none) := hd (vars_none (hsp.out rfl) 4 (by omega))
        clear hst hsp
        have b0 := hb 0 (by omega)
        have b1 := hb 1 (by omega)
        have b2 := hb 2 (by omega)
        have b3 := hb 3 (by omega)
        go_wp2_with (go_at_call 45; fail)
        refine (hrv _).mono ?_
        rintro e w1 ⟨rfl, hb1⟩
        have c0 := (hb1.cell (p := ⟨w.heap.size, 0, none⟩) (Nat.lt_of_succ_lt hz1)).trans b0
        have c1 := (hb1.cell (p := ⟨w.heap.size, 1, none⟩) (Nat.lt_of_succ_lt hz1)).trans b1
        have c2 := (hb1.cell (p := ⟨w.heap.size, 2, none⟩) (Nat.lt_of_succ_lt hz1)).trans b2
        have c3 := (hb1.cell (p := ⟨w.heap.size, 3, none⟩) (Nat.lt_of_succ_lt hz1)).trans b3
        have f0 := fun j => (hb1.frozen (p := ⟨w.heap.size, j, none⟩) (Nat.lt_of_succ_lt hz1)).trans (hfb j)
        have hbel1 := hbel.trans (hb1.mono hbel.size)
        clear hb hfb ha hfa b0 b1 b2 b3 hb1 hrv hbel
        go_wp2
        exact bodyPost_ret (v := .tuple #[ins 0 0 0 0, .string ⟨#[]⟩, .bool false]) (by simp [results, Tryd.results46, go_sem, *]) rfl ⟨.inr ⟨HN.out, rfl⟩, (((hbel1.setCell (Nat.le_refl _) _).setCell (Nat.le_refl _) _).setCell (Nat.le_refl _) _).setCell (Nat.le_refl _) _⟩
      · have HN : Hid (vars (i + 1) s.data.toList = some ((List.range i).map f ++ [x], m + k)) := hd (hst.out hk0)
        have hk1 : ¬ (k : Int) = 0 := by omega
        clear hst hsp
        go_wp2_with (go_at_call 45; fail)
        refine (hrv _).mono ?_
        rintro e w1 ⟨rfl, hb1⟩
        have ca := fun j hj => (hb1.cell (p := ⟨w.heap.size + 1, j, none⟩) hz1).trans (ha j hj)
        have cb := fun j hj => (hb1.cell (p := ⟨w.heap.size, j, none⟩) (Nat.lt_of_succ_lt hz1)).trans (hb j hj)
        have fa := fun j => (hb1.frozen (p := ⟨w.heap.size + 1, j, none⟩) hz1).trans (hfa j)
        have fb := fun j => (hb1.frozen (p := ⟨w.heap.size, j, none⟩) (Nat.lt_of_succ_lt hz1)).trans (hfb j)
        have hbel1 := hbel.trans (hb1.mono hbel.size)
        have ci := ca i hlt
        have fi := fa i
        have HA := hd ca
        have HB := hd cb
        have FA := hd fa
        have FB := hd fb
        clear hb hfb ha hfa hb1 hrv hbel ca cb fa fb
        have hi0 : (0 : Int) ≤ i := by omega
        have hi4 : (i : Int) < 4 := by omega
        have hkk : (k : Int) ≤ t.size := by omega
        go_wp2_with fail
        go_region
        all_goals
          go_wp2
          go_roundw
          case rel =>
            refine ⟨i + 1, m + k, t.extract k t.size, fun j => if j = i then x else f j, by omega, rfl, by go_num, by simp; omega, hd ?_, hd (by rw [HN.out, range_put]), ?_, ?_, ?_, ?_, (hbel1.setCell (by simp) _).drew⟩
            · rw [extract_list, htl.out, List.drop_drop]
            · intro j hj
              by_cases hji : j = i
              · subst hji
                simp only [if_pos]
                exact World.cell?_setCell_same _ _ _ ci
              · simp only [if_neg hji]
                exact (World.cell?_setCell_other _ _ _ _ (by simp [hji])).trans (HA.out j hj)
            · intro j; simpa using FA.out j
            · intro j hj
              exact (World.cell?_setCell_other _ _ _ _ (by simp)).trans (HB.out j hj)
            · intro j; simpa using FB.out j
          case measure => simp [intOf]; omega
    · obtain rfl : i = 4 := by omega
      have HV : Hid (vars 4 s.data.toList = some ([f 0, f 1, f 2, f 3], m)) := hd (by rw [hv.out]; rfl)
      have hle := (vars_le HV.out).2.2
      have a0 := ha 0 (by omega)
      have a1 := ha 1 (by omega)
      have a2 := ha 2 (by omega)
      have a3 := ha 3 (by omega)
      have b0 := hb 0 (by omega)
      have b1 := hb 1 (by omega)
      have b2 := hb 2 (by omega)
      have b3 := hb 3 (by omega)
      have hx2 : f 2 ≤ 562949953421311 := hle _ (by simp)
      clear ha hb hfa hv hle
      have hq : Hid (insOf [f 0, f 1, f 2, f 3] = ⟨f 0, f 1, if f 0 = 1 then zag (f 2) else f 2, f 3⟩) := hd rfl
      generalize f 0 = x0 at *
      generalize f 1 = x1 at *
      generalize f 2 = x2 at *
      generalize f 3 = x3 at *
      have hz0 : w.heap.size < wr.heap.size := Nat.lt_of_succ_lt hz1
      by_cases h1 : x0 = 1
      · subst h1
        rw [if_pos rfl] at hq
        go_wp2_with (go_at_call 63; refine (zag_impl _ _ hx2).mono ?_; rintro e w' ⟨rfl, rfl⟩)
        go_region_with (first
          | (go_at_call 47; refine (InsJ.impl_any _ _ _ _ _).mono ?_; rintro e w2 ⟨rfl, hb2⟩; obtain ⟨hc2, hf2⟩ := bcell hb2))
        all_goals
          go_wp2
          have d0 : w2.cell? ⟨w.heap.size, 0, none⟩ = some (.int .i64 0) := (hb2.cell (p := ⟨w.heap.size, 0, none⟩) (by simp; omega)).trans ((World.cell?_alloc_lt _ _ _ hz0).trans b0)
          have d1 : w2.cell? ⟨w.heap.size, 1, none⟩ = some (.int .i64 0) := (hb2.cell (p := ⟨w.heap.size, 1, none⟩) (by simp; omega)).trans ((World.cell?_alloc_lt _ _ _ hz0).trans b1)
          have d2 : w2.cell? ⟨w.heap.size, 2, none⟩ = some (.int .i64 0) := (hb2.cell (p := ⟨w.heap.size, 2, none⟩) (by simp; omega)).trans ((World.cell?_alloc_lt _ _ _ hz0).trans b2)
          have d3 : w2.cell? ⟨w.heap.size, 3, none⟩ = some (.int .i64 0) := (hb2.cell (p := ⟨w.heap.size, 3, none⟩) (by simp; omega)).trans ((World.cell?_alloc_lt _ _ _ hz0).trans b3)
          obtain ⟨e0, e1, e2, e3⟩ := four (.int .i64 1) (.int .i64 x1) (.int .i64 (zag x2)) (.int .i64 x3) d0 d1 d2 d3
          refine bodyPost_ret (v := .tuple #[ins 1 x1 (zag x2) x3, .string t, .bool (okB 1 x1 (zag x2) x3)]) (by simp [results, Tryd.results46, go_sem, e0, e1, e2, e3]) rfl ⟨.inl ⟨_, m, t, HV.out, htl.out, by rw [hq.out]; rfl⟩, ?_⟩
          first
          | exact (((((hbel.alloc hbel.size _).drew.trans (hb2.mono (by simp; omega))).setCell (Nat.le_refl _) _).setCell (Nat.le_refl _) _).setCell (Nat.le_refl _) _).setCell (Nat.le_refl _) _
          | exact ((((((hbel.alloc hbel.size _).setCell (Nat.le_refl _) _).setCell (Nat.le_refl _) _).setCell (Nat.le_refl _) _).setCell (Nat.le_refl _) _).drew).trans (hb2.mono (by simp; omega))
      · rw [if_neg h1] at hq
        have h1' : ¬ (x0 : Int) = 1 := by omega
        go_wp2_with fail
        go_region_with (first
          | (go_at_call 47; refine (InsJ.impl_any _ _ _ _ _).mono ?_; rintro e w2 ⟨rfl, hb2⟩; obtain ⟨hc2, hf2⟩ := bcell hb2))
        all_goals
          go_wp2
          have d0 : w2.cell? ⟨w.heap.size, 0, none⟩ = some (.int .i64 0) := (hb2.cell (p := ⟨w.heap.size, 0, none⟩) (by simp; omega)).trans ((World.cell?_alloc_lt _ _ _ hz0).trans b0)
          have d1 : w2.cell? ⟨w.heap.size, 1, none⟩ = some (.int .i64 0) := (hb2.cell (p := ⟨w.heap.size, 1, none⟩) (by simp; omega)).trans ((World.cell?_alloc_lt _ _ _ hz0).trans b1)
          have d2 : w2.cell? ⟨w.heap.size, 2, none⟩ = some (.int .i64 0) := (hb2.cell (p := ⟨w.heap.size, 2, none⟩) (by simp; omega)).trans ((World.cell?_alloc_lt _ _ _ hz0).trans b2)
          have d3 : w2.cell? ⟨w.heap.size, 3, none⟩ = some (.int .i64 0) := (hb2.cell (p := ⟨w.heap.size, 3, none⟩) (by simp; omega)).trans ((World.cell?_alloc_lt _ _ _ hz0).trans b3)
          obtain ⟨e0, e1, e2, e3⟩ := four (.int .i64 x0) (.int .i64 x1) (.int .i64 x2) (.int .i64 x3) d0 d1 d2 d3
          refine bodyPost_ret (v := .tuple #[ins x0 x1 x2 x3, .string t, .bool (okB x0 x1 x2 x3)]) (by simp [results, Tryd.results46, go_sem, e0, e1, e2, e3]) rfl ⟨.inl ⟨_, m, t, HV.out, htl.out, by rw [hq.out]; rfl⟩, ?_⟩
          first
          | exact (((((hbel.alloc hbel.size _).drew.trans (hb2.mono (by simp; omega))).setCell (Nat.le_refl _) _).setCell (Nat.le_refl _) _).setCell (Nat.le_refl _) _).setCell (Nat.le_refl _) _
          | exact ((((((hbel.alloc hbel.size _).setCell (Nat.le_refl _) _).setCell (Nat.le_refl _) _).setCell (Nat.le_refl _) _).setCell (Nat.le_refl _) _).drew).trans (hb2.mono (by simp; omega))

end Go.Proofs.YteamkpjlcflkcaaDoor.ReadB
