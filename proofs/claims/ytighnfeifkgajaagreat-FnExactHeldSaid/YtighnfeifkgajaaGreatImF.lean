/- What impl's procsByPid and parentOk answer. Condition: the processes' numbers are unlike. -/
import Derived.Test.YtighnfeifkgajaaGreatMpA
import Derived.Deep.RegionWith
import Derived.BigRegion
namespace Go.Proofs.YtighnfeifkgajaaGreat.ImF
open Go.RowKit Go.Deep Num InsC InsO ProgC IntC RowC PrgL UnC PlcM BootA SpC SpD ImA ImB ImC ImD ImE CpuI CpuS Bel SpA MpA
open Go.Maps (Keyed int_keyed keyOf_int_mk)
set_option maxRecDepth 100000
set_option linter.unusedVariables false
set_option linter.unusedSimpArgs false

theorem plcN_take_none (l : List Pr) (k : Nat) (p : Pr) (hn : (l.map Pr.pid).Nodup) (h : l[k]? = some p) : plcN Pr.pid p.pid (l.take k) = none := by
  have h1 := plcN_of_uniq Pr.pid l hn k p h
  cases hc : plcN Pr.pid p.pid (l.take k) with
  | none => rfl
  | some j =>
    obtain ⟨x, hx, hxp⟩ := plcN_some Pr.pid p.pid (l.take k) j hc
    have hjk : j < k := by have := (List.getElem?_eq_some_iff.1 hx).1; simp at this; omega
    rw [List.getElem?_take_of_lt hjk] at hx
    have h2 := plcN_of_uniq Pr.pid l hn j x hx
    rw [hxp, h1] at h2
    simp at h2
    omega
theorem makeMap_run (n : Int) (w : World) : (Instr.makeMap 121 (some (.int .i64 n))).run Tryz.prog w = .ok (.map (some w.heap.size)) (w.alloc (.map #[] 0)) := by kernel_rfl
set_option maxHeartbeats 2000000 in
theorem byPid_any (v : Value) (l : List Pr) (bs : List Nat) (w : World) (hs : l.length ≤ 1048576) (hn : (l.map Pr.pid).Nodup) (hwf : ∀ (i : Nat) (p : Pr), l[i]? = some p → (Lit.int .i64 p.pid).wf = true) (h : Procs w v l bs) :
    Calls Tryz.prog 94 #[v] w fun e w' => ∃ gs D, e = .returned (.map (some w.heap.size)) ∧ MapR w' w.heap.size l gs D ∧ Below w.heap.size w w' := by
  obtain ⟨a, c, rfl⟩ := h.slice
  have HR := hd h
  have HN := hd hn
  have HWF := hd hwf
  have hmm : (Instr.makeMap 121 (some (.int .i64 (l.length : Int)))).run Tryz.prog w = .ok (.map (some w.heap.size)) (w.alloc (.map #[] 0)) := makeMap_run _ _
  clear h hn hwf
  go_enter Tryz.func94, Tryz.ntmps94
  go_wp2_with fail
  go_loopw [11] (fun i wr => ∃ k : Nat, k ≤ l.length ∧ i = .int .i64 k ∧ Hid (∃ gs D, MapR wr w.heap.size (l.take k) gs D) ∧ Below w.heap.size w wr) (fun i _ => l.length - (intOf i).toNat)
  case atStart => exact ⟨0, Nat.zero_le _, rfl, hd ⟨_, _, map_start w⟩, (Below.refl _ _).alloc (Nat.le_refl _) _⟩
  case round =>
    obtain ⟨k, hk, rfl, hmr, hbel⟩ := hrel
    by_cases hlt : k < l.length
    · obtain ⟨g, rfl⟩ : ∃ g, a = some ⟨g, 0, none⟩ := by
        rcases HR.out.cases with ⟨hh, h0, _⟩ | ⟨g, cap, hh, _⟩
        · rw [h0] at hlt; simp at hlt
        · simp at hh; exact ⟨g, hh.1⟩
      obtain ⟨p, cs, b', hp, hP, ho⟩ := (HR.out.below good_pr hbel).out hlt
      obtain ⟨z1, z2, z3, b1, b2, b3, rfl, i1, i2, i3, rfl⟩ := hP
      obtain ⟨x1, y1, rfl⟩ := i1.slice
      obtain ⟨x2, y2, rfl⟩ := i2.slice
      obtain ⟨x3, y3, rfl⟩ := i3.slice
      have d0 := ho.cell 0 _ rfl
      have d1 := ho.cell 1 _ rfl
      have d2 := ho.cell 2 _ rfl
      have d3 := ho.cell 3 _ rfl
      have d4 := ho.cell 4 _ rfl
      have d5 := ho.cell 5 _ rfl
      have d6 := ho.cell 6 _ rfl
      have d7 := ho.cell 7 _ rfl
      have d8 := ho.cell 8 _ rfl
      have d9 := ho.cell 9 _ rfl
      rw [Nat.add_zero] at d0
      unfold ic at d0 d1 d2 d3 d4 d8 d9
      have hk0 : (0 : Int) ≤ k := by omega
      have hk1 : (k : Int) < l.length := by omega
      have htl : (l.take k).length = k := by simp; omega
      have HT : Hid (l.take (k + 1) = l.take k ++ [p]) := hd (by
        obtain ⟨h1, h2⟩ := List.getElem?_eq_some_iff.1 hp
        rw [List.take_succ_eq_append_getElem h1, h2])
      have HNO := hd (plcN_take_none l k p HN.out hp)
      have hkey := keyOf_int_mk (P := Tryz.prog) Tryz.underlying3 (HWF.out k p hp)
      have hb1 : Below wr.heap.size wr (wr.alloc (.cells (p.cells (.slice x1 p.regs.length y1) (.slice x2 p.mem.length y2) (.slice x3 p.fds.length y3)).toArray 55)) := (Below.refl _ wr).alloc (Nat.le_refl _) _
      have hpa : PAt (wr.alloc (.cells (p.cells (.slice x1 p.regs.length y1) (.slice x2 p.mem.length y2) (.slice x3 p.fds.length y3)).toArray 55)) wr.heap.size p (.slice x1 p.regs.length y1) (.slice x2 p.mem.length y2) (.slice x3 p.fds.length y3) :=
        ⟨cell_box wr _ _ _ rfl, by simp, i1.ints.below hb1, i2.ints.below hb1, i3.ints.below hb1⟩
      obtain ⟨V, hV⟩ : ∃ V, wr.alloc (.cells (p.cells (.slice x1 p.regs.length y1) (.slice x2 p.mem.length y2) (.slice x3 p.fds.length y3)).toArray 55) = V := ⟨_, rfl⟩
      rw [hV] at hb1 hpa
      obtain ⟨gs, D, hD⟩ := hmr.out
      have hGM : wr.heap.size ≠ w.heap.size := by have := hD.own.lt; omega
      have hownV : V.ownsMap Tryz.prog 3 ptrElem w.heap.size k D := by
        have := (hD.below hb1).own
        rwa [htl] at this
      have HS := hd (fun w2 (h2 : w2.ownsMap Tryz.prog 3 ptrElem w.heap.size (k + 1) (D.put (key p.pid) (.lit (.int .i64 (wr.heap.size : Int))))) (hg : V.grownBy w2 (some w.heap.size)) => map_step (w2 := w2) (p := p) hD hGM hb1 hpa HNO.out (by rw [htl]; exact h2) hg)
      have c0 : V.cell? ⟨wr.heap.size, 0, none⟩ = some (.int .i64 p.pid) := hpa.cell 0 _ rfl
      have hbV : Below w.heap.size w V := hbel.trans (hb1.mono hbel.size)
      unfold Pr.cells ic at hV
      have hownL := hownV
      rw [← hV] at hownL
      replace hV := hd hV
      clear ho i1 i2 i3 hmr hD hp hpa c0
      go_wp2_with (at_mapUpdate; refine wpList_mapUpdate_own _ rfl _ _ _ 121 rfl 3 123 law Tryz.underlying121 ptrElem w.heap.size k _ rfl hownL (by unfold maxLen; omega) _ _ _ rfl rfl hkey _ [] (ptrElem_mk _) ?_)
      intro w2 hown2 hg2
      rw [hV.out] at hg2
      have HM2 := hd (HS.out w2 hown2 hg2)
      have hb2 : Below w.heap.size w w2 := hbV.grown hg2 hbV.size (fun j hj => by cases hj; exact Nat.le_refl _)
      clear hown2 hg2
      go_wp2_with fail
      go_roundw
      case rel => exact ⟨k + 1, by omega, by go_num, hd (by rw [HT.out]; exact ⟨_, _, HM2.out⟩), hb2⟩
      case measure => simp [intOf]; omega
    · obtain rfl : k = l.length := by omega
      go_wp2
      go_ret
      obtain ⟨gs, D, hD⟩ := hmr.out
      rw [List.take_length] at hD
      exact ⟨gs, D, rfl, hD, hbel⟩

end Go.Proofs.YtighnfeifkgajaaGreat.ImF
