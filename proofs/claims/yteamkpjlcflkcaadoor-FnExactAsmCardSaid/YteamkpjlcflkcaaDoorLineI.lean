/- What impl's asmLine answers. Condition: the tables lie as the text lays them. -/
import Derived.Test.YteamkpjlcflkcaaDoorLineA
import Derived.Test.YteamkpjlcflkcaaDoorAsmC
import Derived.Test.YteamkpjlcflkcaaDoorInsJ
import Derived.WalkMore
import Derived.Deep.RegionWith
import Derived.Deep.RegionLaw
import Derived.BigRegion
namespace Go.Proofs.YteamkpjlcflkcaaDoor.LineI
open Go.RowKit Go.Deep Num InsC InsO ProgC InsJ ProgD ReadA ReadB ReadC ReadS AsmM AsmA AsmB AsmC ListC FormT FormC SplM LineA
set_option linter.unusedVariables false
set_option linter.unusedSimpArgs false

set_option maxRecDepth 100000 in
set_option maxHeartbeats 2000000 in
theorem line_any (s : ByteArray) (w : World) (ht : Tab w) (hs : s.size ≤ 1048576) (hne : s.data.toList ≠ []) :
    Calls Tryd.prog 28 #[.string s] w fun e w' => LinePost s.data.toList e ∧ Below w.heap.size w w' := by
  have HT := hd ht
  have hcw := fun w ht => cutWords_any s w ht hs
  have hwsm := words_small s.data.toList
  rw [show s.data.toList.length = s.size by simp] at hwsm
  have hRF := hd (raw_fit s.data.toList hne)
  have hRN := hd (raw_nofit s.data.toList)
  clear ht
  have hb0 : Below w.heap.size w (w.alloc (.cells #[.int .i64 0, .int .i64 0, .int .i64 0, .int .i64 0] 44)) := (Below.refl _ _).alloc (Nat.le_refl _) _
  go_enter Tryd.func28, Tryd.ntmps28
  go_wp2
  go_step3
  go_wp2_with (go_at_call 51; fail)
  refine (hcw _ (HT.out.below hb0)).mono ?_
  rintro e w1 ⟨⟨sw, c, rfl, h1, h5, hsc, hc5, hw4, hw5, hcl, hlt⟩, hb1⟩
  have hbel := hb0.trans (hb1.mono hb0.size)
  simp only [World.size_alloc] at hlt hcl
  replace hRF := hd (hRF.out sw hw4 hw5)
  replace hRN := hd (hRN.out sw hw4)
  obtain ⟨x0, hx0⟩ : ∃ x, sw[0]? = some x := ⟨sw[0], by simp [show 0 < sw.length by omega]⟩
  have cx0 := hcl 0 x0 hx0
  have hD0 : sw.getD 0 [] = x0 := by simp [List.getD, hx0]
  rw [hD0] at hRF hRN
  replace hcl := hd hcl
  have hbz : Hid (∀ j, j < 4 → w1.cell? ⟨w.heap.size, j, none⟩ = some (.int .i64 0)) := hd (fun j hj => (hb1.cell (p := ⟨w.heap.size, j, none⟩) (by simp)).trans (by
    have : j = 0 ∨ j = 1 ∨ j = 2 ∨ j = 3 := by omega
    rcases this with rfl | rfl | rfl | rfl <;> simp))
  have hfz : Hid (∀ j, w1.frozen? ⟨w.heap.size, j, none⟩ = false) := hd (fun j => (hb1.frozen (p := ⟨w.heap.size, j, none⟩) (by simp)).trans (by simp))
  have h1' : (0 : Int) < sw.length := by omega
  have hld := hd (fcs_at w1 (HT.out.below hbel).forms)
  clear hcw hw4 hw5 hb0 hb1 hx0 hD0
  go_wp2_with fail
  go_step3
  go_wp2_with (refine wpList_load_mid rfl 78 _ rfl 0 0 rfl fcs _ hld.out Tryd.underlying78 rfl (by kernel_rfl) ?_)
  clear hld
  go_loopw [16] (fun iv wr => ∃ k : Nat, k ≤ 9 ∧ iv = .int .i64 k ∧ Hid (∀ o, o < k → ¬ (nmL o = x0 ∧ (fmL o).length + 1 = sw.length)) ∧ Below w1.heap.size w1 wr) (fun iv _ => 9 - (intOf iv).toNat)
  case atStart => exact ⟨0, by omega, rfl, hd (fun o ho => by omega), Below.refl _ _⟩
  case round =>
    obtain ⟨k, hk, rfl, hno, hbx⟩ := hrel
    have hbs := hbx.size
    by_cases hlt9 : k < 9
    · have hix := fcs_index wr k (by omega)
      have hk9 : (k : Int) < 9 := by omega
      have cx1 : wr.cell? ⟨w.heap.size + 1, 0, none⟩ = some (.string ⟨x0.toArray⟩) := (hbx.cell (p := ⟨w.heap.size + 1, 0, none⟩) hlt).trans cx0
      have cxf : (wr.alloc (.cells #[.string ⟨(nmL k).toArray⟩, .string ⟨(fmL k).toArray⟩] 77)).cell? ⟨w.heap.size + 1, 0, none⟩ = some (.string ⟨x0.toArray⟩) := (World.cell?_alloc_lt _ _ _ (by simp; omega)).trans cx1
      have hft := fits_any ⟨(nmL k).toArray⟩ ⟨(fmL k).toArray⟩ ⟨x0.toArray⟩ (w.heap.size + 1) sw.length c _ cxf h1 h5 (by have := fm_len k; show (fmL k).toArray.size ≤ 3; simpa using this)
      rw [show (⟨(fmL k).toArray⟩ : ByteArray).size = (fmL k).length by show (fmL k).toArray.size = _; simp] at hft
      rw [show (⟨(nmL k).toArray⟩ : ByteArray).data.toList = nmL k by simp, show (⟨x0.toArray⟩ : ByteArray).data.toList = x0 by simp] at hft
      by_cases hfit : nmL k = x0 ∧ (fmL k).length + 1 = sw.length
      · rw [decide_eq_true hfit] at hft
        obtain ⟨hk1, hwsw, hraw⟩ := hRF.out k (by omega) hfit.1 hfit.2
        have HF2 := hd hfit.2
        replace hraw := hd hraw
        have hsml : Hid (∀ x ∈ sw, x.length ≤ 1048576) := hd (fun x hx => Nat.le_trans (hwsm x (by rw [← hwsw]; exact hx)) hs)
        clear hno hRN hRF hfit hwsw hwsm
        have hfk1 : 1 ≤ (fmL k).length := by
          have : k = 1 ∨ k = 2 ∨ k = 3 ∨ k = 4 ∨ k = 5 ∨ k = 6 ∨ k = 7 ∨ k = 8 := by omega
          rcases this with rfl | rfl | rfl | rfl | rfl | rfl | rfl | rfl <;> decide
        have hc1 : ¬ c = 1 := by have := HF2.out; omega
        go_wp2_with (go_at_call 52; refine hft.mono ?_; rintro e w2 ⟨rfl, hb2⟩)
        have hbw2 : Below w1.heap.size w1 w2 := (hbx.alloc hbs _).trans (hb2.mono (by simp; omega))
        have hg6 : wr.heap.size < w2.heap.size := by have := hb2.size; simp at this; omega
        have k60 : w2.cell? ⟨wr.heap.size, 0, none⟩ = some (.string ⟨(nmL k).toArray⟩) := (hb2.cell (p := ⟨wr.heap.size, 0, none⟩) (by simp)).trans (by simp)
        have k61 : w2.cell? ⟨wr.heap.size, 1, none⟩ = some (.string ⟨(fmL k).toArray⟩) := (hb2.cell (p := ⟨wr.heap.size, 1, none⟩) (by simp)).trans (by simp)
        clear hft hb2 cxf cx1 hix hbx hbs
        generalize wr.heap.size = g6 at *
        rw [show sw.length - 1 = (fmL k).length by have := HF2.out; omega]
        have hfl := fm_len k
        obtain ⟨fs, hfs⟩ : ∃ fs : ByteArray, fs = ⟨(fmL k).toArray⟩ := ⟨_, rfl⟩
        have hfsl : Hid (fs.data.toList = fmL k) := hd (by rw [hfs])
        have hfsz : Hid (fs.size = (fmL k).length) := hd (by rw [← hfsl.out]; simp)
        rw [← hfs] at k61
        rw [← hfs]
        clear hfs
        have hbe2 := hbel.trans (hbw2.mono hbel.size)
        have hws2 := hbw2.size
        clear hbel hlt9
        go_loopw [27] (fun jv wr => ∃ (j : Nat) (y : Nat → Int), j ≤ (fmL k).length ∧ jv = .int .i64 j ∧ Hid (args (fmL k) sw j = some ((List.range j).map y)) ∧ Hid (∀ i, j ≤ i → y i = 0) ∧
            Hid (∀ i, i < 3 → wr.cell? ⟨w2.heap.size, i, none⟩ = some (.int .i64 (y i))) ∧ Hid (∀ i, wr.frozen? ⟨w2.heap.size, i, none⟩ = false) ∧ Below w2.heap.size w2 wr)
          (fun jv _ => (fmL k).length - (intOf jv).toNat)
        case atStart =>
          refine ⟨0, fun _ => 0, Nat.zero_le _, rfl, hd rfl, hd (fun _ _ => rfl), hd ?_, hd ?_, (Below.refl _ _).alloc (Nat.le_refl _) _⟩
          · intro i hi
            rw [World.cell?_alloc_at _ _ _ _ rfl]
            have : i = 0 ∨ i = 1 ∨ i = 2 := by omega
            rcases this with rfl | rfl | rfl <;> rfl
          · intro i; simp
        case round =>
          obtain ⟨j, y, hj, rfl, hy, hy0, hya, hyf, hbl⟩ := hrel
          have hbls := hbl.size
          have hbw := hbe2.trans (hbl.mono hbe2.size)
          have HD := hd (HT.out.below hbw).dec
          have hbz2 : Hid (∀ i, i < 4 → wr.cell? ⟨w.heap.size, i, none⟩ = some (.int .i64 0)) := hd (fun i hi => (hbl.cell (p := ⟨w.heap.size, i, none⟩) (by simp; omega)).trans ((hbw2.cell (p := ⟨w.heap.size, i, none⟩) (by simp; omega)).trans (hbz.out i hi)))
          have hfz2 : Hid (∀ i, wr.frozen? ⟨w.heap.size, i, none⟩ = false) := hd (fun i => (hbl.frozen (p := ⟨w.heap.size, i, none⟩) (by simp; omega)).trans ((hbw2.frozen (p := ⟨w.heap.size, i, none⟩) (by simp; omega)).trans (hfz.out i)))
          have hwz2 : w.heap.size < w2.heap.size := by omega
          by_cases hlt : j < (fmL k).length
          · have hjf : j < fs.size := by rw [hfsz.out]; exact hlt
            have hjl : 1 + j < sw.length := by have := HF2.out; omega
            obtain ⟨x, hx⟩ : ∃ x, sw[1 + j]? = some x := ⟨sw[1 + j], by simp [hjl]⟩
            have hxD : sw.getD (1 + j) [] = x := by simp [List.getD, hx]
            have cx := (hbl.cell (p := ⟨w.heap.size + 1, 1 + j, none⟩) (by simp; omega)).trans ((hbw2.cell (p := ⟨w.heap.size + 1, 1 + j, none⟩) (by simp; omega)).trans (hcl.out (1 + j) x hx))
            have k0 := (hbl.cell (p := ⟨g6, 0, none⟩) hg6).trans k60
            have k1 := (hbl.cell (p := ⟨g6, 1, none⟩) hg6).trans k61
            have hxs := hsml.out x (List.mem_of_getElem? hx)
            have hst := hd (fun n => args_step (f := fmL k) (ws := sw) (x := n) hy.out)
            have hsp := hd (args_stop (f := fmL k) (ws := sw) hy.out)
            rw [hxD] at hst hsp
            have hfk := get_D fs j hjf
            rw [hfsl.out] at hfk
            rw [hfk] at hst hsp
            have hrp := readPart_any ⟨(nmL k).toArray⟩ fs ⟨x.toArray⟩ j wr HD.out hjf (by rw [hfsz.out]; omega) (by show x.toArray.size ≤ _; simpa using hxs)
            rw [show (⟨x.toArray⟩ : ByteArray).data.toList = x by simp] at hrp
            have hj0 : (0 : Int) ≤ j := by omega
            have hj1 : (j : Int) < (fmL k).length := by omega
            have hj3 : (j : Int) < 3 := by omega
            clear hxD hfk hx hcl hbz hfz
            go_wp2_with (go_at_call 53; fail)
            refine hrp.mono ?_
            rintro e w3 ⟨hp, hb3⟩
            have hwr0 : w.heap.size < wr.heap.size := by omega
            rcases hp with ⟨n, harg, rfl⟩ | ⟨harg, n, rfl⟩
            · have HA := hd (hst.out n harg)
              have hw2r : w2.heap.size < wr.heap.size := World.block_lt_of_cell? wr _ (hya.out 0 (by omega))
              have yk := (hb3.cell (p := ⟨w2.heap.size, j, none⟩) hw2r).trans (hya.out j (by omega))
              have fk := (hb3.frozen (p := ⟨w2.heap.size, j, none⟩) hw2r).trans (hyf.out j)
              have hya3 : Hid (∀ i, i < 3 → w3.cell? ⟨w2.heap.size, i, none⟩ = some (.int .i64 (y i))) := hd (fun i hi => (hb3.cell (p := ⟨w2.heap.size, i, none⟩) hw2r).trans (hya.out i hi))
              have hyf3 : Hid (∀ i, w3.frozen? ⟨w2.heap.size, i, none⟩ = false) := hd (fun i => (hb3.frozen (p := ⟨w2.heap.size, i, none⟩) hw2r).trans (hyf.out i))
              have hbl3 := hbl.trans (hb3.mono hbls)
              clear hst hsp hrp cx k0 k1 hya hyf hbz2 hfz2 hraw
              go_wp2
              go_roundw
              case rel =>
                refine ⟨j + 1, fun i => if i = j then n else y i, by omega, by go_num, hd (by rw [HA.out, range_putI]), hd (fun i hi => by simp only [if_neg (show ¬ i = j by omega)]; exact hy0.out i (by omega)), hd ?_, hd ?_, hbl3.setCell (Nat.le_refl _) _⟩
                · intro i hi
                  by_cases hji : i = j
                  · subst hji
                    simp only [if_pos]
                    exact World.cell?_setCell_same _ _ _ yk
                  · simp only [if_neg hji]
                    exact (World.cell?_setCell_other _ _ _ _ (by simp [hji])).trans (hya3.out i hi)
                · intro i; simpa using hyf3.out i
              case measure => simp [intOf]; omega
            · have HN : Hid (raw s.data.toList = none) := hd (by rw [hraw.out, args_none (hsp.out harg) (fmL k).length (by omega)]; rfl)
              have b0 := (hb3.cell (p := ⟨w.heap.size, 0, none⟩) hwr0).trans (hbz2.out 0 (by omega))
              have b1 := (hb3.cell (p := ⟨w.heap.size, 1, none⟩) hwr0).trans (hbz2.out 1 (by omega))
              have b2 := (hb3.cell (p := ⟨w.heap.size, 2, none⟩) hwr0).trans (hbz2.out 2 (by omega))
              have b3 := (hb3.cell (p := ⟨w.heap.size, 3, none⟩) hwr0).trans (hbz2.out 3 (by omega))
              have ff : ∀ j, w3.frozen? ⟨w.heap.size, j, none⟩ = false := fun j => (hb3.frozen (p := ⟨w.heap.size, j, none⟩) hwr0).trans (hfz2.out j)
              obtain ⟨z0, z1, z2, z3⟩ := four (.int .i64 0) (.int .i64 0) (.int .i64 0) (.int .i64 0) b0 b1 b2 b3
              have hbe := hbw.trans (hb3.mono hbw.size)
              clear hst hsp hrp cx k0 k1 hya hyf hbz2 hfz2 hraw
              go_wp2
              rw [Exit.noGoto_ret]
              exact bodyPost_ret (v := .tuple #[ins 0 0 0 0, .bool false]) (by simp [results, Tryd.results28, go_sem, z0, z1, z2, z3]) rfl ⟨.inr ⟨HN.out, rfl⟩, (((hbe.setCell (Nat.le_refl _) _).setCell (Nat.le_refl _) _).setCell (Nat.le_refl _) _).setCell (Nat.le_refl _) _⟩
          · obtain rfl : j = (fmL k).length := by omega
            have HQ : Hid (raw s.data.toList = some ⟨k, y 0, y 1, y 2⟩) := hd (by rw [hraw.out, hy.out, Option.bind_some, insA_of k (fmL k).length y hfl hy0.out])
            have a0 := hya.out 0 (by omega)
            have a1 := hya.out 1 (by omega)
            have a2 := hya.out 2 (by omega)
            have b0 := hbz2.out 0 (by omega)
            have b1 := hbz2.out 1 (by omega)
            have b2 := hbz2.out 2 (by omega)
            have b3 := hbz2.out 3 (by omega)
            have bf := hfz2.out
            have hz0 : w.heap.size < wr.heap.size := by omega
            have hzw : w2.heap.size < wr.heap.size := World.block_lt_of_cell? wr _ a0
            clear hya hyf hy0 hy hraw hbz2 hfz2 hcl hbz hfz k60 k61
            generalize y 0 = y0 at *
            generalize y 1 = y1 at *
            generalize y 2 = y2 at *
            have hins := hd (InsJ.impl_any k y0 y1 y2)
            go_wp2_with fail
            go_region_with (go_at_call 47; refine (hins.out _).mono ?_; rintro e w4 ⟨rfl, hb4⟩; obtain ⟨hc4, hf4⟩ := bcell hb4)
            all_goals
              go_wp2
              have d0 : w4.cell? ⟨w.heap.size, 0, none⟩ = some (.int .i64 0) := (hb4.cell (p := ⟨w.heap.size, 0, none⟩) (by simp; omega)).trans ((World.cell?_alloc_lt _ _ _ hz0).trans b0)
              have d1 : w4.cell? ⟨w.heap.size, 1, none⟩ = some (.int .i64 0) := (hb4.cell (p := ⟨w.heap.size, 1, none⟩) (by simp; omega)).trans ((World.cell?_alloc_lt _ _ _ hz0).trans b1)
              have d2 : w4.cell? ⟨w.heap.size, 2, none⟩ = some (.int .i64 0) := (hb4.cell (p := ⟨w.heap.size, 2, none⟩) (by simp; omega)).trans ((World.cell?_alloc_lt _ _ _ hz0).trans b2)
              have d3 : w4.cell? ⟨w.heap.size, 3, none⟩ = some (.int .i64 0) := (hb4.cell (p := ⟨w.heap.size, 3, none⟩) (by simp; omega)).trans ((World.cell?_alloc_lt _ _ _ hz0).trans b3)
              obtain ⟨e0, e1, e2, e3⟩ := four (.int .i64 k) (.int .i64 y0) (.int .i64 y1) (.int .i64 y2) d0 d1 d2 d3
              rw [Exit.noGoto_ret]
              refine bodyPost_ret (v := .tuple #[ins k y0 y1 y2, .bool (okB k y0 y1 y2)]) (by simp [results, Tryd.results28, go_sem, e0, e1, e2, e3]) rfl ⟨.inl ⟨_, HQ.out, rfl⟩, ?_⟩
              exact (((((hbw.alloc hbw.size _).drew.trans (hb4.mono (by simp; omega))).setCell (Nat.le_refl _) _).setCell (Nat.le_refl _) _).setCell (Nat.le_refl _) _).setCell (Nat.le_refl _) _
      · rw [decide_eq_false hfit] at hft
        have hno2 : Hid (∀ o, o < k + 1 → ¬ (nmL o = x0 ∧ (fmL o).length + 1 = sw.length)) := hd (fun o ho => by
          rcases Nat.lt_or_ge o k with g | g
          · exact hno.out o g
          · obtain rfl : o = k := by omega
            exact hfit)
        clear hfit hno
        go_wp2_with (go_at_call 52; refine hft.mono ?_; rintro e w2 ⟨rfl, hb2⟩)
        go_roundw
        case rel => exact ⟨k + 1, by omega, by go_num, hno2, (hbx.alloc hbs _).trans (hb2.mono (by simp; omega))⟩
        case measure => simp [intOf]; omega
    · obtain rfl : k = 9 := by omega
      have HN := hd (hRN.out hno.out)
      have b0 := (hbx.cell (p := ⟨w.heap.size, 0, none⟩) (by simp; omega)).trans (hbz.out 0 (by omega))
      have b1 := (hbx.cell (p := ⟨w.heap.size, 1, none⟩) (by simp; omega)).trans (hbz.out 1 (by omega))
      have b2 := (hbx.cell (p := ⟨w.heap.size, 2, none⟩) (by simp; omega)).trans (hbz.out 2 (by omega))
      have b3 := (hbx.cell (p := ⟨w.heap.size, 3, none⟩) (by simp; omega)).trans (hbz.out 3 (by omega))
      have ff : ∀ j, wr.frozen? ⟨w.heap.size, j, none⟩ = false := fun j => (hbx.frozen (p := ⟨w.heap.size, j, none⟩) (by simp; omega)).trans (hfz.out j)
      obtain ⟨z0, z1, z2, z3⟩ := four (.int .i64 0) (.int .i64 0) (.int .i64 0) (.int .i64 0) b0 b1 b2 b3
      have hbe := hbel.trans (hbx.mono hbel.size)
      go_wp2
      rw [Exit.noGoto_ret]
      exact bodyPost_ret (v := .tuple #[ins 0 0 0 0, .bool false]) (by simp [results, Tryd.results28, go_sem, z0, z1, z2, z3]) rfl ⟨.inr ⟨HN.out, rfl⟩, (((hbe.setCell (Nat.le_refl _) _).setCell (Nat.le_refl _) _).setCell (Nat.le_refl _) _).setCell (Nat.le_refl _) _⟩

end Go.Proofs.YteamkpjlcflkcaaDoor.LineI
