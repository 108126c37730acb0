/- What spec's l4Line answers. Condition: none. -/
import Derived.Test.YteamkpjlcflkcaaDoorAsmA
import Derived.Test.YteamkpjlcflkcaaDoorAsmB
import Derived.Test.YteamkpjlcflkcaaDoorReadDec
import Derived.Test.YteamkpjlcflkcaaDoorReadS
import Derived.Deep.RegionWith
import Derived.Deep.RegionLaw
import Derived.BigRegion
namespace Go.Proofs.YteamkpjlcflkcaaDoor.AsmC
open Go.RowKit Go.Deep Num InsC InsO ProgC InsJ ProgD ReadA ReadB ReadC ReadS AsmM AsmA AsmB
set_option linter.unusedVariables false
set_option linter.unusedSimpArgs false

theorem specDec (s : ByteArray) (w : World) (hs : s.size ≤ 1048576) :
    Calls Tryd.prog 62 #[.string s] w fun e w' => e = .returned (.tuple #[.int .i64 (dec s.data.toList).1, .bool (dec s.data.toList).2]) ∧ Below w.heap.size w w' :=
  (ReadDec.spec_any s w hs).mono fun e w' ⟨⟨n, ok, he, hR⟩, hb⟩ => by
    obtain ⟨rfl, rfl⟩ := dec_of hR
    exact ⟨he, hb⟩
theorem own_strs {w : World} {B : Nat} {v : Value} {xs : List (List UInt8)} (h : w.ownsRow B 9 1 v xs.length (xs.map sc)) (hn : 0 < xs.length) :
    ∃ g cap cur, v = .slice (some ⟨g, 0, none⟩) xs.length cap ∧ B ≤ g ∧ g < w.heap.size ∧ w.heap[g]? = some (.cells cur 9 (0, 0)) ∧ ∀ (j : Nat) (x : List UInt8), xs[j]? = some x → w.cell? ⟨g, j, none⟩ = some (.string ⟨x.toArray⟩) := by
  rcases h.2 with ⟨rfl, h0⟩ | ⟨g, cap, cur, rfl, hg, hh, _⟩
  · omega
  · refine ⟨g, cap, cur, rfl, hg, block_lt hh, hh, fun j x hj => ?_⟩
    have := (List.getElem?_eq_some_iff.1 hj).1
    rw [h.cellAt j (by omega), List.getElem?_map, hj]
    rfl
theorem range_putI (i : Nat) (x : Int) (f : Nat → Int) : (List.range (i + 1)).map (fun j => if j = i then x else f j) = (List.range i).map f ++ [x] := by
  rw [List.range_succ, List.map_append]
  congr 1
  · refine List.map_congr_left fun j hj => ?_
    have := List.mem_range.1 hj
    rw [if_neg (by omega)]
  · simp
theorem form_len (l : List UInt8) : (form l).2.length ≤ 3 := by
  unfold form
  repeat' split
  all_goals simp
theorem form_op (l : List UInt8) : (form l).1 ≤ 8 := by
  unfold form
  repeat' split
  all_goals simp
theorem insA_of (op n : Nat) (y : Nat → Int) (hn : n ≤ 3) (h0 : ∀ j, n ≤ j → y j = 0) : insA op ((List.range n).map y) = ⟨op, y 0, y 1, y 2⟩ := by
  have g : ∀ j, ((List.range n).map y).getD j 0 = y j := by
    intro j
    by_cases hj : j < n
    · simp [List.getD, hj]
    · rw [h0 j (by omega)]
      simp [List.getD, hj]
  unfold insA
  rw [g, g, g]

/-- What l4Line answers. -/
def LinePost (l : List UInt8) (e : Ending) : Prop :=
  (∃ q, raw l = some q ∧ e = .returned (.tuple #[ins q.o q.a q.b q.c, .bool (Q.ok q)])) ∨ (raw l = none ∧ e = .returned (.tuple #[ins 0 0 0 0, .bool false]))

set_option maxRecDepth 100000 in
set_option maxHeartbeats 2000000 in
theorem line_any (s : ByteArray) (w : World) (hs : s.size ≤ 1048576) :
    Calls Tryd.prog 38 #[.string s] w fun e w' => LinePost s.data.toList e ∧ Below w.heap.size w w' := by
  have hwl := words_len s.data.toList
  have hwsm := words_small s.data.toList
  have hsl : s.data.toList.length = s.size := by simp
  rw [hsl] at hwl hwsm
  go_enter Tryd.func38, Tryd.ntmps38
  go_wp2_with (go_at_call 60; fail)
  refine (words_any s _ hs).mono ?_
  rintro e w1 ⟨v, rfl, hov, hb1⟩
  have hraw : Hid (raw s.data.toList = if (form ((words s.data.toList).getD 0 [])).1 = 0 ∨ (words s.data.toList).length ≠ (form ((words s.data.toList).getD 0 [])).2.length + 1 then none
      else (args (form ((words s.data.toList).getD 0 [])).2 (words s.data.toList) (form ((words s.data.toList).getD 0 [])).2.length).bind fun xs => some (insA (form ((words s.data.toList).getD 0 [])).1 xs)) := hd rfl
  generalize words s.data.toList = ws at *
  obtain ⟨g, cap, cur, rfl, hgB, hgl, _, hgc⟩ := own_strs hov (by omega)
  have hbz : ∀ j, j < 4 → w1.cell? ⟨w.heap.size, j, none⟩ = some (.int .i64 0) := fun j hj => (hb1.cell (p := ⟨w.heap.size, j, none⟩) (by simp)).trans (by
    have : j = 0 ∨ j = 1 ∨ j = 2 ∨ j = 3 := by omega
    rcases this with rfl | rfl | rfl | rfl <;> simp)
  have hfz : ∀ j, w1.frozen? ⟨w.heap.size, j, none⟩ = false := fun j => (hb1.frozen (p := ⟨w.heap.size, j, none⟩) (by simp)).trans (by simp)
  have hbel : Below w.heap.size w w1 := ((Below.refl _ _).alloc (Nat.le_refl _) _).trans (hb1.mono (by simp))
  have hgB' : w.heap.size < g := by simp at hgB; omega
  clear hb1 hov hgB
  obtain ⟨x0, hx0⟩ : ∃ x0, ws[0]? = some x0 := ⟨ws[0], by simp [show 0 < ws.length by omega]⟩
  have c0 := hgc 0 x0 hx0
  have hd0 : ws.getD 0 [] = x0 := by simp [List.getD, hx0]
  rw [hd0] at hraw
  have hfo := fun w => form_any ⟨x0.toArray⟩ w
  rw [show (⟨x0.toArray⟩ : ByteArray).data.toList = x0 by simp] at hfo
  have hfl := form_len x0
  have hfop := form_op x0
  generalize form x0 = fp at *
  obtain ⟨op, f⟩ := fp
  simp only at hfo hraw hfl hfop
  obtain ⟨fs, hfs⟩ : ∃ fs : ByteArray, fs = ⟨f.toArray⟩ := ⟨_, rfl⟩
  rw [← hfs] at hfo
  have hfsl : fs.data.toList = f := by rw [hfs]
  have hfsz : fs.size = f.length := by rw [← hfsl]; simp
  clear hfs hd0
  have hw0 : (0 : Int) < ws.length := by omega
  have b0 := hbz 0 (by omega)
  have b1 := hbz 1 (by omega)
  have b2 := hbz 2 (by omega)
  have b3 := hbz 3 (by omega)
  by_cases hop : op = 0
  · have HN : Hid (raw s.data.toList = none) := hd (by rw [hraw.out, if_pos (.inl hop)])
    subst hop
    obtain ⟨z0, z1, z2, z3⟩ := four (.int .i64 0) (.int .i64 0) (.int .i64 0) (.int .i64 0) b0 b1 b2 b3
    clear hraw hgc
    go_wp2_with (go_at_call 40; refine (hfo _).mono ?_; rintro e w' ⟨rfl, rfl⟩)
    exact bodyPost_ret (v := .tuple #[ins 0 0 0 0, .bool false]) (by simp [results, Tryd.results38, go_sem, z0, z1, z2, z3]) rfl ⟨.inr ⟨HN.out, rfl⟩, (((hbel.setCell (Nat.le_refl _) _).setCell (Nat.le_refl _) _).setCell (Nat.le_refl _) _).setCell (Nat.le_refl _) _⟩
  have hop1 : ((op : Int) == 0) = false := by simp; omega
  by_cases hlen : ws.length = f.length + 1
  · have HR : Hid (raw s.data.toList = (args f ws f.length).bind fun xs => some (insA op xs)) := hd (by rw [hraw.out, if_neg (by omega)])
    have hlen1 : ((ws.length : Int) != (fs.size : Int) + 1) = false := by simp; omega
    have hfs3 : (fs.size : Int) ≤ 3 := by omega
    replace hlen := hd hlen
    replace hfsz := hd hfsz
    clear hraw b0 b1 b2 b3 hsl
    go_wp2_with (go_at_call 40; refine (hfo _).mono ?_; rintro e w' ⟨rfl, rfl⟩)
    go_loopw [8] (fun iv wr => ∃ (k : Nat) (y : Nat → Int), k ≤ f.length ∧ iv = .int .i64 k ∧ Hid (args f ws k = some ((List.range k).map y)) ∧ (∀ j, k ≤ j → y j = 0) ∧
        (∀ j, j < 3 → wr.cell? ⟨w1.heap.size, j, none⟩ = some (.int .i64 (y j))) ∧ (∀ j, wr.frozen? ⟨w1.heap.size, j, none⟩ = false) ∧
        (∀ j, j < 4 → wr.cell? ⟨w.heap.size, j, none⟩ = some (.int .i64 0)) ∧ (∀ j, wr.frozen? ⟨w.heap.size, j, none⟩ = false) ∧
        (∀ (j : Nat) (x : List UInt8), ws[j]? = some x → wr.cell? ⟨g, j, none⟩ = some (.string ⟨x.toArray⟩)) ∧ Below w.heap.size w wr)
      (fun iv _ => f.length - (intOf iv).toNat)
    case atStart =>
      refine ⟨0, fun _ => 0, Nat.zero_le _, rfl, hd rfl, fun _ _ => rfl, ?_, ?_, ?_, ?_, ?_, hbel.alloc hbel.size _⟩
      · intro j hj
        have : j = 0 ∨ j = 1 ∨ j = 2 := by omega
        rcases this with rfl | rfl | rfl <;> simp
      · intro j; simp
      · intro j hj
        exact (World.cell?_alloc_lt _ _ _ (Nat.lt_trans hgB' hgl)).trans (hbz j hj)
      · intro j
        exact (World.frozen?_alloc_past _ _ _ (Nat.lt_trans hgB' hgl)).trans (hfz j)
      · intro j x hj
        exact (World.cell?_alloc_lt _ _ _ hgl).trans (hgc j x hj)
    case round =>
      obtain ⟨k, y, hk, rfl, hy, hy0, hya, hyf, hb, hbf, hgs, hbl⟩ := hrel
      by_cases hlt : k < f.length
      · have hkf : k < fs.size := by rw [hfsz.out]; exact hlt
        have hkl : 1 + k < ws.length := by rw [hlen.out]; omega
        obtain ⟨x, hx⟩ : ∃ x, ws[1 + k]? = some x := ⟨ws[1 + k], by simp [hkl]⟩
        have hxD : ws.getD (1 + k) [] = x := by simp [List.getD, hx]
        have cx := hgs (1 + k) x hx
        have hxs : x.length ≤ 1048576 := Nat.le_trans (hwsm x (List.mem_of_getElem? hx)) hs
        have hst := hd (fun x => args_step (f := f) (ws := ws) (x := x) hy.out)
        have hsp := hd (args_stop (f := f) (ws := ws) hy.out)
        rw [hxD] at hst hsp
        have hfk := get_D fs k hkf
        rw [hfsl] at hfk
        rw [hfk] at hst hsp
        clear hy hxD hfk
        have hk0 : (0 : Int) ≤ k := by omega
        have hk3 : (k : Int) < 3 := by omega
        have hkf' : (k : Int) < fs.size := by omega
        have hkw : (1 : Int) + k < ws.length := by omega
        have yk := hya k (by omega)
        have fk := hyf k
        have HGS := hd hgs
        have HYA := hd hya
        have HYF := hd hyf
        have HB := hd hb
        have HBF := hd hbf
        have hz1 : w.heap.size < w1.heap.size := Nat.lt_trans hgB' hgl
        clear hgs hya hyf hb hbf hgc hbz hfz
        by_cases hc : fs[k] = 114
        · have hc' : (fs[k].toNat : Int) = 114 := by rw [hc]; rfl
          have hrg := fun w => reg_any ⟨x.toArray⟩ w (by show x.toArray.size ≤ _; simpa using hxs)
          rw [show (⟨x.toArray⟩ : ByteArray).data.toList = x by simp] at hrg
          by_cases hneg : reg x < 0
          · have HN : Hid (raw s.data.toList = none) := hd (by rw [HR.out, args_none (hsp.out (by unfold arg; rw [if_pos hc, if_pos hneg])) f.length (by omega)]; rfl)
            clear hst hsp HR
            have o : ∀ j, (wr.setCell ⟨w1.heap.size, k, none⟩ (.int .i64 (reg x))).cell? ⟨w.heap.size, j, none⟩ = wr.cell? ⟨w.heap.size, j, none⟩ := fun j => World.cell?_setCell_other _ _ _ _ (by simp <;> omega)
            have b0 := (o 0).trans (HB.out 0 (by omega))
            have b1 := (o 1).trans (HB.out 1 (by omega))
            have b2 := (o 2).trans (HB.out 2 (by omega))
            have b3 := (o 3).trans (HB.out 3 (by omega))
            have ff : ∀ j, (wr.setCell ⟨w1.heap.size, k, none⟩ (.int .i64 (reg x))).frozen? ⟨w.heap.size, j, none⟩ = false := fun j => by simpa using HBF.out j
            obtain ⟨z0, z1, z2, z3⟩ := four (.int .i64 0) (.int .i64 0) (.int .i64 0) (.int .i64 0) b0 b1 b2 b3
            clear o
            go_wp2_with (go_at_call 61; refine (hrg _).mono ?_; rintro e w' ⟨rfl, rfl⟩)
            exact bodyPost_ret (v := .tuple #[ins 0 0 0 0, .bool false]) (by simp [results, Tryd.results38, go_sem, z0, z1, z2, z3]) rfl ⟨.inr ⟨HN.out, rfl⟩, ((((hbl.setCell (Nat.le_of_lt hz1) _).setCell (Nat.le_refl _) _).setCell (Nat.le_refl _) _).setCell (Nat.le_refl _) _).setCell (Nat.le_refl _) _⟩
          · have HA := hd (hst.out (reg x) (by unfold arg; rw [if_pos hc, if_neg hneg]))
            clear hst hsp
            have hneg' : 0 ≤ reg x := by omega
            go_wp2_with (go_at_call 61; refine (hrg _).mono ?_; rintro e w' ⟨rfl, rfl⟩)
            go_roundw
            case rel =>
              refine ⟨k + 1, fun j => if j = k then reg x else y j, by omega, by go_num, hd (by rw [HA.out, range_putI]), fun j hj => by simp only [if_neg (show ¬ j = k by omega)]; exact hy0 j (by omega), ?_, ?_, ?_, ?_, ?_, hbl.setCell (Nat.le_of_lt (Nat.lt_trans hgB' hgl)) _⟩
              · intro j hj
                by_cases hji : j = k
                · subst hji
                  simp only [if_pos]
                  exact World.cell?_setCell_same _ _ _ yk
                · simp only [if_neg hji]
                  exact (World.cell?_setCell_other _ _ _ _ (by simp [hji])).trans (HYA.out j hj)
              · intro j; simpa using HYF.out j
              · intro j hj
                exact (World.cell?_setCell_other _ _ _ _ (by simp <;> omega)).trans (HB.out j hj)
              · intro j; simpa using HBF.out j
              · intro j x hj
                exact (World.cell?_setCell_other _ _ _ _ (by simp <;> omega)).trans (HGS.out j x hj)
            case measure => simp [intOf]; omega
        · have hc' : ((fs[k].toNat : Int) == 114) = false := by
            have : fs[k].toNat ≠ 114 := fun h => hc (UInt8.toNat.inj h)
            simp; omega
          have hdc := fun w => specDec ⟨x.toArray⟩ w (by show x.toArray.size ≤ _; simpa using hxs)
          rw [show (⟨x.toArray⟩ : ByteArray).data.toList = x by simp] at hdc
          have harg : arg fs[k] x = if (dec x).2 = true then some (dec x).1 else none := by unfold arg; rw [if_neg hc]
          rw [harg] at hst hsp
          have hdl := dec_le x
          generalize dec x = dx at *
          obtain ⟨n, is⟩ := dx
          simp only at hdc hst hsp hdl
          cases is
          · have HN : Hid (raw s.data.toList = none) := hd (by rw [HR.out, args_none (hsp.out (if_neg (by simp))) f.length (by omega)]; rfl)
            clear hst hsp HR harg
            go_wp2_with (go_at_call 62; fail)
            refine (hdc _).mono ?_
            rintro e w2 ⟨rfl, hb2⟩
            have hwz : w.heap.size < wr.heap.size := World.block_lt_of_cell? wr _ (HB.out 0 (by omega))
            have b0 := (hb2.cell (p := ⟨w.heap.size, 0, none⟩) hwz).trans (HB.out 0 (by omega))
            have b1 := (hb2.cell (p := ⟨w.heap.size, 1, none⟩) hwz).trans (HB.out 1 (by omega))
            have b2 := (hb2.cell (p := ⟨w.heap.size, 2, none⟩) hwz).trans (HB.out 2 (by omega))
            have b3 := (hb2.cell (p := ⟨w.heap.size, 3, none⟩) hwz).trans (HB.out 3 (by omega))
            have ff : ∀ j, w2.frozen? ⟨w.heap.size, j, none⟩ = false := fun j => (hb2.frozen (p := ⟨w.heap.size, j, none⟩) hwz).trans (HBF.out j)
            obtain ⟨z0, z1, z2, z3⟩ := four (.int .i64 0) (.int .i64 0) (.int .i64 0) (.int .i64 0) b0 b1 b2 b3
            have hbl2 := hbl.trans (hb2.mono hbl.size)
            go_wp2
            exact bodyPost_ret (v := .tuple #[ins 0 0 0 0, .bool false]) (by simp [results, Tryd.results38, go_sem, z0, z1, z2, z3]) rfl ⟨.inr ⟨HN.out, rfl⟩, (((hbl2.setCell (Nat.le_refl _) _).setCell (Nat.le_refl _) _).setCell (Nat.le_refl _) _).setCell (Nat.le_refl _) _⟩
          · have HA := hd (hst.out n (if_pos rfl))
            clear hst hsp harg
            go_wp2_with (go_at_call 62; fail)
            refine (hdc _).mono ?_
            rintro e w2 ⟨rfl, hb2⟩
            have hwz : w.heap.size < wr.heap.size := World.block_lt_of_cell? wr _ (HB.out 0 (by omega))
            have hwz1 : w1.heap.size < wr.heap.size := World.block_lt_of_cell? wr _ yk
            replace yk := (hb2.cell (p := ⟨w1.heap.size, k, none⟩) hwz1).trans yk
            replace fk := (hb2.frozen (p := ⟨w1.heap.size, k, none⟩) hwz1).trans fk
            replace HYA := hd (fun j hj => (hb2.cell (p := ⟨w1.heap.size, j, none⟩) hwz1).trans (HYA.out j hj))
            replace HYF := hd (fun j => (hb2.frozen (p := ⟨w1.heap.size, j, none⟩) hwz1).trans (HYF.out j))
            replace HB := hd (fun j hj => (hb2.cell (p := ⟨w.heap.size, j, none⟩) hwz).trans (HB.out j hj))
            replace HBF := hd (fun j => (hb2.frozen (p := ⟨w.heap.size, j, none⟩) hwz).trans (HBF.out j))
            replace HGS := hd (fun j x hj => (hb2.cell (p := ⟨g, j, none⟩) (Nat.lt_trans hgl hwz1)).trans (HGS.out j x hj))
            have hbl2 := hbl.trans (hb2.mono hbl.size)
            clear hb2 cx
            go_wp2
            go_roundw
            case rel =>
              refine ⟨k + 1, fun j => if j = k then n else y j, by omega, by go_num, hd (by rw [HA.out, range_putI]), fun j hj => by simp only [if_neg (show ¬ j = k by omega)]; exact hy0 j (by omega), ?_, ?_, ?_, ?_, ?_, hbl2.setCell (Nat.le_of_lt (Nat.lt_trans hgB' hgl)) _⟩
              · intro j hj
                by_cases hji : j = k
                · subst hji
                  simp only [if_pos]
                  exact World.cell?_setCell_same _ _ _ yk
                · simp only [if_neg hji]
                  exact (World.cell?_setCell_other _ _ _ _ (by simp [hji])).trans (HYA.out j hj)
              · intro j; simpa using HYF.out j
              · intro j hj
                exact (World.cell?_setCell_other _ _ _ _ (by simp <;> omega)).trans (HB.out j hj)
              · intro j; simpa using HBF.out j
              · intro j x hj
                exact (World.cell?_setCell_other _ _ _ _ (by simp <;> omega)).trans (HGS.out j x hj)
            case measure => simp [intOf]; omega
      · obtain rfl : k = f.length := by omega
        have HQ : Hid (raw s.data.toList = some ⟨op, y 0, y 1, y 2⟩) := hd (by rw [HR.out, hy.out, Option.bind_some, insA_of op f.length y hfl hy0])
        have a0 := hya 0 (by omega)
        have a1 := hya 1 (by omega)
        have a2 := hya 2 (by omega)
        have b0 := hb 0 (by omega)
        have b1 := hb 1 (by omega)
        have b2 := hb 2 (by omega)
        have b3 := hb 3 (by omega)
        have hz0 : w.heap.size < wr.heap.size := World.block_lt_of_cell? wr _ b0
        have hzw : w1.heap.size < wr.heap.size := World.block_lt_of_cell? wr _ a0
        have hkf : (fs.size : Int) = f.length := by rw [hfsz.out]
        clear hya hb hgs hyf hy0 hy HR hgc hbz hfz
        generalize y 0 = y0 at *
        generalize y 1 = y1 at *
        generalize y 2 = y2 at *
        go_wp2_with fail
        go_region
        all_goals
          go_wp2_with fail
          go_region_with (first
            | (go_at_call 30; refine (InsS.spec_any _ _ _ _ _).mono ?_; rintro e w2 ⟨rfl, hb2⟩; obtain ⟨hc2, hf2⟩ := bcell hb2))
          all_goals
            go_wp2
            have d0 : w2.cell? ⟨w.heap.size, 0, none⟩ = some (.int .i64 0) := (hb2.cell (p := ⟨w.heap.size, 0, none⟩) (by simp; omega)).trans ((World.cell?_alloc_lt _ _ _ hz0).trans b0)
            have d1 : w2.cell? ⟨w.heap.size, 1, none⟩ = some (.int .i64 0) := (hb2.cell (p := ⟨w.heap.size, 1, none⟩) (by simp; omega)).trans ((World.cell?_alloc_lt _ _ _ hz0).trans b1)
            have d2 : w2.cell? ⟨w.heap.size, 2, none⟩ = some (.int .i64 0) := (hb2.cell (p := ⟨w.heap.size, 2, none⟩) (by simp; omega)).trans ((World.cell?_alloc_lt _ _ _ hz0).trans b2)
            have d3 : w2.cell? ⟨w.heap.size, 3, none⟩ = some (.int .i64 0) := (hb2.cell (p := ⟨w.heap.size, 3, none⟩) (by simp; omega)).trans ((World.cell?_alloc_lt _ _ _ hz0).trans b3)
            obtain ⟨e0, e1, e2, e3⟩ := four (.int .i64 op) (.int .i64 y0) (.int .i64 y1) (.int .i64 y2) d0 d1 d2 d3
            refine bodyPost_ret (v := .tuple #[ins op y0 y1 y2, .bool (okB op y0 y1 y2)]) (by simp [results, Tryd.results38, go_sem, e0, e1, e2, e3]) rfl ⟨.inl ⟨_, HQ.out, rfl⟩, ?_⟩
            exact (((((hbl.alloc hbl.size _).drew.drew.trans (hb2.mono (by simp; omega))).setCell (Nat.le_refl _) _).setCell (Nat.le_refl _) _).setCell (Nat.le_refl _) _).setCell (Nat.le_refl _) _
  · have HN : Hid (raw s.data.toList = none) := hd (by rw [hraw.out, if_pos (.inr hlen)])
    have hlen1 : ((ws.length : Int) != (fs.size : Int) + 1) = true := by simp; omega
    have hfs3 : (fs.size : Int) ≤ 3 := by omega
    obtain ⟨z0, z1, z2, z3⟩ := four (.int .i64 0) (.int .i64 0) (.int .i64 0) (.int .i64 0) b0 b1 b2 b3
    clear hraw hgc
    go_wp2_with (go_at_call 40; refine (hfo _).mono ?_; rintro e w' ⟨rfl, rfl⟩)
    exact bodyPost_ret (v := .tuple #[ins 0 0 0 0, .bool false]) (by simp [results, Tryd.results38, go_sem, z0, z1, z2, z3]) rfl ⟨.inr ⟨HN.out, rfl⟩, (((hbel.setCell (Nat.le_refl _) _).setCell (Nat.le_refl _) _).setCell (Nat.le_refl _) _).setCell (Nat.le_refl _) _⟩

end Go.Proofs.YteamkpjlcflkcaaDoor.AsmC
