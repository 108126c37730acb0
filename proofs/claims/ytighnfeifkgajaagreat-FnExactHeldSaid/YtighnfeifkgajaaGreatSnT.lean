/- Chapter 10, spec's side: Sound. Condition: none. -/
import Derived.Test.YtighnfeifkgajaaGreatSnS
import Derived.Test.YtighnfeifkgajaaGreatUnE
import Derived.Test.YtighnfeifkgajaaGreatMaU
import Derived.Deep.RegionHeld3
import Derived.Deep.DeepCutAuto
namespace Go.Proofs.YtighnfeifkgajaaGreat.SnT
open Go.RowKit Go.Deep Num InsC InsO ProgC IntC RowC PrgL UnC PlcM SpA SpB SpC SpD SpE SpF CpuS BootA Bel SnS
set_option maxRecDepth 100000
set_option linter.unusedVariables false
set_option linter.unusedSimpArgs false

def kidB (n : Int) (q : Pr) : Bool := decide (q.parent = n)
def deadB (n : Int) (q : Pr) : Bool := decide (q.parent = n) && decide (q.state = 6)
def opAt (u : Un) (n : Int) : Ope := match plcN Ope.id n u.opens with
  | some k => u.opens.getD k default
  | none => default
def plen (u : Un) (n : Int) : Nat := match plcN Pip.id n u.pipes with
  | some k => (u.pipes.getD k default).data.length
  | none => 0
theorem plc_op (u : Un) (n : Int) (h : 0 ≤ plc Ope.id u.opens n) : ∃ (k : Nat) (o : Ope), plc Ope.id u.opens n = k ∧ u.opens[k]? = some o ∧ opAt u n = o := by
  unfold plc opAt at *
  cases hh : plcN Ope.id n u.opens with
  | none => rw [hh] at h; simp at h
  | some k =>
    obtain ⟨x, h1, h2⟩ := plcN_some Ope.id n u.opens k hh
    exact ⟨k, x, rfl, h1, by simp [List.getD_eq_getElem?_getD, h1]⟩
theorem plc_pi (u : Un) (n : Int) (h : 0 ≤ plc Pip.id u.pipes n) : ∃ (k : Nat) (q : Pip), plc Pip.id u.pipes n = k ∧ u.pipes[k]? = some q ∧ plen u n = q.data.length := by
  unfold plc plen at *
  cases hh : plcN Pip.id n u.pipes with
  | none => rw [hh] at h; simp at h
  | some k =>
    obtain ⟨x, h1, h2⟩ := plcN_some Pip.id n u.pipes k hh
    exact ⟨k, x, rfl, h1, by simp [List.getD_eq_getElem?_getD, h1]⟩
/-- Who waits on a pipe's end: its Open is among its own, of that kind, its pipe has that many words, and the other end is there. -/
def waitB (u : Un) (p : Pr) (mine other : Int) (n : Nat) : Bool :=
  p.fds.any (fun x => decide (x = (opAt u p.til).id)) && (decide ((opAt u p.til).kind = mine) && (decide (plen u (opAt u p.til).target = n) && decide (0 < endsN u (opAt u p.til).target other)))
def sndB (u : Un) (p : Pr) : Bool :=
  if p.state = 3 then decide (0 < cnt (kidB p.pid) u.procs) && decide (cnt (deadB p.pid) u.procs = 0)
  else if p.state = 6 then decide (cnt (deadB p.pid) u.procs = 0)
  else if p.state = 4 then waitB u p 3 4 0
  else if p.state = 5 then waitB u p 4 3 4
  else true
def soundB (u : Un) : Bool := usB u && u.procs.all (sndB u)

def CutO (Y : World) (o : Ope) (s8 : Value) (wx : World) : Prop := ∃ g, s8 = .pointer (some ⟨g, 0, none⟩) ∧ Y.heap.size ≤ g ∧ Below Y.heap.size Y wx ∧ wx.cell? ⟨g, 0, none⟩ = some (.int .i64 o.id) ∧ wx.cell? ⟨g, 1, none⟩ = some (.int .i64 o.kind) ∧ wx.cell? ⟨g, 2, none⟩ = some (.int .i64 o.target) ∧ wx.cell? ⟨g, 3, none⟩ = some (.int .i64 o.off) ∧ wx.cell? ⟨g, 4, none⟩ = some (.int .i64 o.refs)
theorem l6O_step {P : Program} {W Y : World} {f : FuncId} {args : Array Value} {v : Value} (h : CallG P W f args v) (hY : Below W.heap.size W Y) (X : World) (hX : Below Y.heap.size Y X) :
    Calls P f args X fun e w' => e = .returned v ∧ Below X.heap.size X w' := by
  have := h X (hY.trans (hX.mono hY.size)) ⟨X, Below.refl _ _⟩
  exact this.mono fun e w' ⟨he, y, hy⟩ => ⟨he, by rw [hy]; exact y.ok⟩
theorem balloc {W4 X : World} (h : Below W4.heap.size W4 X) (o : Obj) : Below W4.heap.size W4 (X.alloc o) := h.alloc h.size o
theorem bset {W4 X : World} {p : Addr} (h : Below W4.heap.size W4 X) (hp : W4.heap.size ≤ p.block) (v : Value) : Below W4.heap.size W4 (X.setCell p v) := h.setCell hp v
set_option maxHeartbeats 16000000 in
theorem l10Proc_any (u : Un) (s : Vs) (b : Bl) (p : Pr) (v1 v2 v3 : Value) (w : World) (hs : u.Sm) (hp : p.Sm) (h : UnO w s u b) (h3 : Ints w v3 p.fds)
    (hop : p.state = 4 ∨ p.state = 5 → 0 ≤ plc Ope.id u.opens p.til) (hpi : ∀ (i : Nat) (o : Ope), u.opens[i]? = some o → o.kind = 3 ∨ o.kind = 4 → 0 ≤ plc Pip.id u.pipes o.target) :
    Calls Tryz.prog 55 #[u.v s, .agg (p.cells v1 v2 v3).toArray] w fun e w' => e = .returned (.bool (sndB u p)) ∧ Below w.heap.size w w' := by
  have hbb : Below w.heap.size w ((w.alloc (.cells (bx u s) 38)).alloc (.cells (p.cells v1 v2 v3).toArray 55)) := (box_below w _ _).alloc (by simp) _
  have hT := Two2.new w u s (p.cells v1 v2 v3) 55
  have hU := h.below hbb
  have hI := h3.below hbb
  obtain ⟨W, hW⟩ : ∃ W, (w.alloc (.cells (bx u s) 38)).alloc (.cells (p.cells v1 v2 v3).toArray 55) = W := ⟨_, rfl⟩
  rw [hW] at hbb hT hU hI
  replace hW := hd hW
  obtain ⟨g3, c3, hv3⟩ := h.procs.slice
  obtain ⟨g4, c4, hv4⟩ := h.opens.slice
  obtain ⟨g5, c5, hv5⟩ := h.pipes.slice
  obtain ⟨x3, y3, rfl⟩ := ints_slice h3
  have a0 := cellB (hT.a 0 _ rfl)
  have a1 := cellB (hT.a 1 _ rfl)
  have a2 := cellB (hT.a 2 _ rfl)
  have a3 := cellB (hT.a 3 _ rfl)
  have a4 := cellB (hT.a 4 _ rfl)
  have a5 := cellB (hT.a 5 _ rfl)
  have a6 := cellB (hT.a 6 _ rfl)
  have a7 := cellB (hT.a 7 _ rfl)
  have a8 := cellB (hT.a 8 _ rfl)
  have b0 := cellB (hT.b 0 _ rfl)
  have b1 := cellB (hT.b 1 _ rfl)
  have b2 := cellB (hT.b 2 _ rfl)
  have b3 := cellB (hT.b 3 _ rfl)
  have b4 := cellB (hT.b 4 _ rfl)
  have b5 := cellB (hT.b 5 _ rfl)
  have b6 := cellB (hT.b 6 _ rfl)
  have b7 := cellB (hT.b 7 _ rfl)
  have b8 := cellB (hT.b 8 _ rfl)
  have b9 := cellB (hT.b 9 _ rfl)
  have HLO := hd (fun n => callG (P := Tryz.prog) (W := W) fun X hb => l6Open_any u s b n X hs.opens (hU.below hb))
  have HLP := hd (fun n => callG (P := Tryz.prog) (W := W) fun X hb => l6Pipe_any u s b n X hs.pipes (hU.below hb))
  have HLE := hd (fun n ki => callG (P := Tryz.prog) (W := W) fun X hb => l6Ends_any u s b n ki X hs.opens (hU.below hb))
  have HLH := hd (fun n => callGS (P := Tryz.prog) (W := W) fun X hb => l6Has_any _ p.fds n X (hI.below hb) hp.fds)
  have HRO := hd hU.procs
  have HOP := hd hU.opens
  have HPI := hd hU.pipes
  have HBB := hd hbb
  have HHO := hd hop
  have HHP := hd hpi
  have hlo := hs.procs
  have hlo4 := hs.opens
  have HSM := hd hs
  have hlt0 := hT.lt
  obtain ⟨x0, hx0⟩ : ∃ x0 : Bel W, x0.w = W := ⟨⟨W, Below.refl _ _⟩, rfl⟩
  replace hx0 := hd hx0
  obtain ⟨p1, p2, p3, p4, p5, p6, p7⟩ := s
  simp only at a2 a3 a4 a5 a6 a7 a8 hv3 hv4 hv5 HRO HOP HPI
  subst hv3 hv4 hv5
  unfold ic at b0 b1 b2 b3 b4 b8 b9
  unfold Un.v at HLO HLP HLE
  unfold ic at HLO HLP HLE
  simp only at HLO HLP HLE
  unfold bx Pr.cells ic at hW
  unfold Un.v Pr.cells
  unfold ic
  simp only at hW ⊢
  obtain ⟨r, hr⟩ : ∃ r, sndB u p = r := ⟨_, rfl⟩
  rw [hr]
  unfold sndB at hr
  replace hr := hd hr
  clear h hU hI hT hbb h3 hop hpi hs hp
  go_enter Tryz.func55, Tryz.ntmps55
  go_wp2_with fail
  rw [hW.out, ← hx0.out]
  clear hW
  go_loopw [5, 6, 7] (fun kv dv i wr => ∃ (k K D : Nat), k ≤ u.procs.length ∧ i = .int .i64 k ∧ kv = .int .i64 K ∧ dv = .int .i64 D ∧ K ≤ k ∧ D ≤ k ∧ Hid (K = cnt (kidB p.pid) (u.procs.take k)) ∧ Hid (D = cnt (deadB p.pid) (u.procs.take k)) ∧ ∃ x : Bel W, wr = x.w) (fun _ _ i _ => u.procs.length - (intOf i).toNat)
  case atStart => exact ⟨0, 0, 0, Nat.zero_le _, rfl, rfl, rfl, by omega, by omega, hd rfl, hd rfl, _, rfl⟩
  case round =>
    obtain ⟨k, K, D, hk, rfl, rfl, rfl, hK, hD, HK, HD, x, rfl⟩ := hrel
    by_cases hlt : k < u.procs.length
    · obtain ⟨q, cs, bb, hq, hP, hou⟩ := HRO.out.out hlt
      obtain ⟨w1, w2, w3, b1', b2', b3', rfl, _⟩ := hP
      obtain ⟨gg, rfl⟩ : ∃ gg, g3 = some ⟨gg, 0, none⟩ := by
        rcases HRO.out.cases with ⟨hh, h0, _⟩ | ⟨gg, cap, hh, _⟩
        · rw [h0] at hlt; simp at hlt
        · simp at hh; exact ⟨gg, hh.1⟩
      have d1 := cellB (hou.cell 1 _ rfl)
      have d2 := cellB (hou.cell 2 _ rfl)
      unfold ic at d1 d2
      have hk0 : (0 : Int) ≤ (k : Int) := by omega
      have hk1 : (k : Int) < (u.procs.length : Int) := by omega
      have sk := cnt_step (kidB p.pid) u.procs k q hq
      have sd := cnt_step (deadB p.pid) u.procs k q hq
      unfold kidB at sk
      unfold deadB at sd
      by_cases e1 : q.parent = p.pid
      · have e1' : (q.parent == p.pid) = true := by simpa using e1
        have HK1 : Hid (K + 1 = cnt (kidB p.pid) (u.procs.take (k + 1))) := hd (by rw [e1] at sk; simp at sk; have := HK.out; unfold kidB at this ⊢; omega)
        by_cases e2 : q.state = 6
        · have e2' : (q.state == 6) = true := by simpa using e2
          have HD1 : Hid (D + 1 = cnt (deadB p.pid) (u.procs.take (k + 1))) := hd (by rw [e1, e2] at sd; simp at sd; have := HD.out; unfold deadB at this ⊢; omega)
          clear sk sd e1 e2 hq hou
          go_wp2_with fail
          refine region_in _ (by kernel_rfl) (by kernel_rfl) (fun hne => ?_)
          repeat (go_big_quiet_step (fail))
          refine wpQuiet_nil ?_
          rintro _ ⟨y, rfl⟩
          go_wp2
          go_roundw
          case rel => exact ⟨k + 1, K + 1, D + 1, by omega, by go_num, by go_num, by go_num, by omega, by omega, HK1, HD1, y, rfl⟩
          case measure => simp [intOf]; omega
        · have e2' : (q.state == 6) = false := by simpa using e2
          have HD1 : Hid (D = cnt (deadB p.pid) (u.procs.take (k + 1))) := hd (by rw [e1] at sd; simp [e2] at sd; have := HD.out; unfold deadB at this ⊢; omega)
          clear sk sd e1 e2 hq hou
          go_wp2_with fail
          refine region_in _ (by kernel_rfl) (by kernel_rfl) (fun hne => ?_)
          repeat (go_big_quiet_step (fail))
          refine wpQuiet_nil ?_
          rintro _ ⟨y, rfl⟩
          go_wp2
          go_roundw
          case rel => exact ⟨k + 1, K + 1, D, by omega, by go_num, by go_num, rfl, by omega, by omega, HK1, HD1, y, rfl⟩
          case measure => simp [intOf]; omega
      · have e1' : (q.parent == p.pid) = false := by simpa using e1
        have HK1 : Hid (K = cnt (kidB p.pid) (u.procs.take (k + 1))) := hd (by simp [e1] at sk; have := HK.out; unfold kidB at this ⊢; omega)
        have HD1 : Hid (D = cnt (deadB p.pid) (u.procs.take (k + 1))) := hd (by simp [e1] at sd; have := HD.out; unfold deadB at this ⊢; omega)
        clear sk sd e1 hq hou
        go_wp2_with fail
        refine region_in _ (by kernel_rfl) (by kernel_rfl) (fun hne => ?_)
        repeat (go_big_quiet_step (fail))
        refine wpQuiet_nil ?_
        rintro _ ⟨y, rfl⟩
        go_wp2
        go_roundw
        case rel => exact ⟨k + 1, K, D, by omega, by go_num, rfl, rfl, by omega, by omega, HK1, HD1, y, rfl⟩
        case measure => simp [intOf]; omega
    · obtain rfl : k = u.procs.length := by omega
      have HK2 : Hid (cnt (kidB p.pid) u.procs = K) := hd (by have h1 := HK.out; rw [List.take_length] at h1; exact h1.symm)
      have HD2 : Hid (cnt (deadB p.pid) u.procs = D) := hd (by have h1 := HD.out; rw [List.take_length] at h1; exact h1.symm)
      clear HK HD
      by_cases s3 : p.state = 3
      · have s3' : (p.state == 3) = true := by simpa using s3
        have HF : Hid (r = (decide (0 < K) && decide (D = 0))) := hd (by rw [← hr.out, if_pos s3, HK2.out, HD2.out])
        by_cases t1 : 0 < K
        · have t1' : decide (0 < K) = true := by simpa using t1
          have t1'' : decide ((0 : Int) < (K : Int)) = true := by simp; omega
          have HF2 : Hid (r = ((D : Int) == 0)) := hd (by rw [HF.out, t1', Bool.true_and, Bool.eq_iff_iff]; simp)
          clear s3 t1 hr HF
          go_wp2
          go_ret
          exact ⟨by rw [HF2.out]; rfl, Bel.fin HBB.out _⟩
        · have t1' : decide (0 < K) = false := by simpa using t1
          have t1'' : decide ((0 : Int) < (K : Int)) = false := by simp; omega
          have HF2 : Hid (r = false) := hd (by rw [HF.out, t1']; rfl)
          clear s3 t1 hr HF
          go_wp2
          go_ret
          exact ⟨by rw [HF2.out]; rfl, Bel.fin HBB.out _⟩
      · have s3' : (p.state == 3) = false := by simpa using s3
        by_cases s6 : p.state = 6
        · have s6' : (p.state == 6) = true := by simpa using s6
          have HF2 : Hid (r = ((D : Int) == 0)) := hd (by rw [← hr.out, if_neg s3, if_pos s6, HD2.out, Bool.eq_iff_iff]; simp)
          clear s3 s6 hr
          go_wp2
          go_ret
          exact ⟨by rw [HF2.out]; rfl, Bel.fin HBB.out _⟩
        · have s6' : (p.state == 6) = false := by simpa using s6
          by_cases s45 : p.state = 4 ∨ p.state = 5
          · obtain ⟨kk, o, hkk, hok, hat⟩ := plc_op u p.til (HHO.out s45)
            obtain ⟨go, rfl⟩ : ∃ go, g4 = some ⟨go, 0, none⟩ := by
              have hl4 := (List.getElem?_eq_some_iff.1 hok).1
              rcases HOP.out.cases with ⟨hh, h0, _⟩ | ⟨gg, cap, hh, _⟩
              · rw [h0] at hl4; simp at hl4
              · simp at hh; exact ⟨gg, hh.1⟩
            obtain ⟨o', cs', bb', ho', hP', hou'⟩ := HOP.out.out (List.getElem?_eq_some_iff.1 hok).1
            rw [hok] at ho'
            simp only [Option.some.injEq] at ho'
            subst ho'
            obtain ⟨rfl, _⟩ := hP'
            have f0 := cellB (hou'.cell 0 _ rfl)
            have f1 := cellB (hou'.cell 1 _ rfl)
            have f2 := cellB (hou'.cell 2 _ rfl)
            have f3 := cellB (hou'.cell 3 _ rfl)
            have f4 := cellB (hou'.cell 4 _ rfl)
            unfold ic at f0 f1 f2 f3 f4
            simp only [Nat.add_zero] at f0
            have hkl : kk < u.opens.length := (List.getElem?_eq_some_iff.1 hok).1
            have hkk0 : (0 : Int) ≤ (kk : Int) := by omega
            have hkk1 : (kk : Int) < (u.opens.length : Int) := by omega
            have HPL := hd (HHP.out kk o hok)
            obtain ⟨Y, hY⟩ : ∃ Y, x.w = Y := ⟨_, rfl⟩
            have hYW : Below W.heap.size W Y := by rw [← hY]; exact x.ok
            have hl1 : w.heap.size < Y.heap.size := by have := hYW.size; omega
            have hl2 : w.heap.size + 1 < Y.heap.size := by have := hYW.size; omega
            have hl4 : go < Y.heap.size := by
              have := World.block_lt_of_cell? Y _ (by rw [← hY]; exact f0 x)
              exact this
            have HSX := hd (show ∀ X, Below Y.heap.size Y X → (Below Y.heap.size Y X ∧ X.cell? ⟨w.heap.size, 0, none⟩ = some (.int .i64 u.next) ∧ X.cell? ⟨w.heap.size, 1, none⟩ = some (.int .i64 u.tick) ∧ X.cell? ⟨w.heap.size, 2, none⟩ = some (p1) ∧ X.cell? ⟨w.heap.size, 3, none⟩ = some (.slice g3 u.procs.length c3) ∧ X.cell? ⟨w.heap.size, 4, none⟩ = some (.slice (some ⟨go, 0, none⟩) u.opens.length c4) ∧ X.cell? ⟨w.heap.size, 5, none⟩ = some (.slice g5 u.pipes.length c5) ∧ X.cell? ⟨w.heap.size, 6, none⟩ = some (p5) ∧ X.cell? ⟨w.heap.size, 7, none⟩ = some (p6) ∧ X.cell? ⟨w.heap.size, 8, none⟩ = some (p7) ∧ X.cell? ⟨w.heap.size + 1, 8, none⟩ = some (.int .i64 p.til) ∧ X.cell? ⟨go, kk * 5, none⟩ = some (.int .i64 o.id) ∧ X.cell? ⟨go, kk * 5 + 1, none⟩ = some (.int .i64 o.kind) ∧ X.cell? ⟨go, kk * 5 + 2, none⟩ = some (.int .i64 o.target) ∧ X.cell? ⟨go, kk * 5 + 3, none⟩ = some (.int .i64 o.off) ∧ X.cell? ⟨go, kk * 5 + 4, none⟩ = some (.int .i64 o.refs)) from fun X hX => ⟨hX, (hX.cell (p := ⟨w.heap.size, 0, none⟩) hl1).trans (by rw [← hY]; exact a0 x), (hX.cell (p := ⟨w.heap.size, 1, none⟩) hl1).trans (by rw [← hY]; exact a1 x), (hX.cell (p := ⟨w.heap.size, 2, none⟩) hl1).trans (by rw [← hY]; exact a2 x), (hX.cell (p := ⟨w.heap.size, 3, none⟩) hl1).trans (by rw [← hY]; exact a3 x), (hX.cell (p := ⟨w.heap.size, 4, none⟩) hl1).trans (by rw [← hY]; exact a4 x), (hX.cell (p := ⟨w.heap.size, 5, none⟩) hl1).trans (by rw [← hY]; exact a5 x), (hX.cell (p := ⟨w.heap.size, 6, none⟩) hl1).trans (by rw [← hY]; exact a6 x), (hX.cell (p := ⟨w.heap.size, 7, none⟩) hl1).trans (by rw [← hY]; exact a7 x), (hX.cell (p := ⟨w.heap.size, 8, none⟩) hl1).trans (by rw [← hY]; exact a8 x), (hX.cell (p := ⟨w.heap.size + 1, 8, none⟩) hl2).trans (by rw [← hY]; exact b8 x), (hX.cell (p := ⟨go, kk * 5, none⟩) hl4).trans (by rw [← hY]; exact f0 x), (hX.cell (p := ⟨go, kk * 5 + 1, none⟩) hl4).trans (by rw [← hY]; exact f1 x), (hX.cell (p := ⟨go, kk * 5 + 2, none⟩) hl4).trans (by rw [← hY]; exact f2 x), (hX.cell (p := ⟨go, kk * 5 + 3, none⟩) hl4).trans (by rw [← hY]; exact f3 x), (hX.cell (p := ⟨go, kk * 5 + 4, none⟩) hl4).trans (by rw [← hY]; exact f4 x)⟩)
            have HLO2 := hd (fun X (hX : Below Y.heap.size Y X) => l6O_step (P := Tryz.prog) (HLO.out p.til) hYW X hX)
            rw [hkk] at HLO2
            rw [hY]
            have HYW := hd hYW
            have HA := hd (And.intro a0 (And.intro a1 (And.intro a2 (And.intro a3 (And.intro a4 (And.intro a5 (And.intro a6 (And.intro a7 a8))))))))
            have HB := hd (And.intro b2 b7)
            rcases s45 with s4 | s5
            · skip
              have q3 : (p.state == 3) = false := s3'
              have q4 : (p.state == 4) = true := by simp [s4]
              have q5 : (p.state == 5) = false := by simp [s4]
              have HF : Hid (r = waitB u p 3 4 0) := hd (by rw [← hr.out, if_neg s3, if_neg s6, if_pos s4])
              have z3 : Y.cell? ⟨w.heap.size, 3, none⟩ = some (.slice g3 u.procs.length c3) := by rw [← hY]; exact a3 x
              clear a0 a1 a2 a3 a4 a5 a6 a7 a8 f0 f1 f2 f3 f4 b0 b1 b3 b4 b5 b6 b7 b8 b9 hr s3 s6 s4
              have z2 : Y.cell? ⟨w.heap.size + 1, 2, none⟩ = some (.int .i64 p.state) := by rw [← hY]; exact b2 x
              clear b2
              go_wp2_with fail
              go_cut [8] (fun s8 wx => CutO Y o s8 wx)
              case first =>
                go_region_held3 (fun X => Below Y.heap.size Y X ∧ X.cell? ⟨w.heap.size, 0, none⟩ = some (.int .i64 u.next) ∧ X.cell? ⟨w.heap.size, 1, none⟩ = some (.int .i64 u.tick) ∧ X.cell? ⟨w.heap.size, 2, none⟩ = some (p1) ∧ X.cell? ⟨w.heap.size, 3, none⟩ = some (.slice g3 u.procs.length c3) ∧ X.cell? ⟨w.heap.size, 4, none⟩ = some (.slice (some ⟨go, 0, none⟩) u.opens.length c4) ∧ X.cell? ⟨w.heap.size, 5, none⟩ = some (.slice g5 u.pipes.length c5) ∧ X.cell? ⟨w.heap.size, 6, none⟩ = some (p5) ∧ X.cell? ⟨w.heap.size, 7, none⟩ = some (p6) ∧ X.cell? ⟨w.heap.size, 8, none⟩ = some (p7) ∧ X.cell? ⟨w.heap.size + 1, 8, none⟩ = some (.int .i64 p.til) ∧ X.cell? ⟨go, kk * 5, none⟩ = some (.int .i64 o.id) ∧ X.cell? ⟨go, kk * 5 + 1, none⟩ = some (.int .i64 o.kind) ∧ X.cell? ⟨go, kk * 5 + 2, none⟩ = some (.int .i64 o.target) ∧ X.cell? ⟨go, kk * 5 + 3, none⟩ = some (.int .i64 o.off) ∧ X.cell? ⟨go, kk * 5 + 4, none⟩ = some (.int .i64 o.refs))
                  ((refine HSX.out _ ?_; repeat' first | with_reducible exact hB5 | with_reducible exact Below.refl _ _ | with_reducible refine bset ?_ (by first | omega | (simp <;> omega)) _ | with_reducible refine balloc ?_ _ | with_reducible apply Below.drew))
                  (first
                    | (go_at_call 72; refine (HLO2.out _ (‹Below Y.heap.size Y _ ∧ _›.1)).mono ?_; rintro e w5 ⟨rfl, hb5⟩; have hX5 := ‹Below Y.heap.size Y _ ∧ _›.1; have hB5 := hX5.trans (hb5.mono hX5.size); obtain ⟨hc5, hf5⟩ := InsJ.bcell hb5; have hz5 := hb5.size; have hzx := hX5.size; clear hb5 hX5; simp at hz5; (try (have hza : Y.heap.size < w5.heap.size := (by omega)))))
                all_goals
                  go_wp2_with fail
                  go_meet
                  refine ⟨_, rfl, by first | omega | (simp <;> omega), ?_, ?_, ?_, ?_, ?_, ?_⟩
                  · repeat' first | with_reducible exact hB5 | with_reducible refine bset ?_ (by first | omega | (simp <;> omega)) _ | with_reducible refine balloc ?_ _ | with_reducible apply Below.drew
                  all_goals (clear HSX HLO2 HLO HLP HLE HLH HRO HOP HPI HHO HHP HF HA HB; first | (simp [*]; done) | (simp [go_sem, *]; done) | (go_simp; done))
              case rest =>
              obtain ⟨g8, rfl, hge8, hbY, k0, k1, k2, k3, k4⟩ := hcut
              have hbV : Below W.heap.size W wc := HYW.out.trans (hbY.mono HYW.out.size)
              obtain ⟨V, hV⟩ : ∃ V, wc = V := ⟨_, rfl⟩
              rw [hV] at hbY k0 k1 k2 k3 k4 hbV ⊢
              obtain ⟨z0, hz0⟩ : ∃ z0 : Bel V, z0.w = V := ⟨⟨V, Below.refl _ _⟩, rfl⟩
              obtain ⟨a0, a1, a2, a3, a4, a5, a6, a7, a8⟩ := HA.out
              obtain ⟨b2, b7⟩ := HB.out
              replace a0 := cellV hbV a0
              replace a1 := cellV hbV a1
              replace a2 := cellV hbV a2
              replace a3 := cellV hbV a3
              replace a4 := cellV hbV a4
              replace a5 := cellV hbV a5
              replace a6 := cellV hbV a6
              replace a7 := cellV hbV a7
              replace a8 := cellV hbV a8
              replace b2 := cellV hbV b2
              replace b7 := cellV hbV b7
              replace k0 := cellB k0
              replace k1 := cellB k1
              replace k2 := cellB k2
              replace k3 := cellB k3
              replace k4 := cellB k4
              have M1 := HLH.out o.id V hbV
              have M2 := HLP.out o.target V hbV
              have M3 := HLE.out o.target 4 V hbV
              replace hz0 := hd hz0
              have HFI := hd (fun y : Bel V => Bel.fin HBB.out (y.up hbV))
              rw [← hz0.out]
              clear hV z2 z3
              cases m1 : p.fds.any (fun x => decide (x = o.id))
              · have HF2 : Hid (r = false) := hd (by rw [HF.out]; unfold waitB; rw [hat, m1]; rfl)
                rw [m1] at M1
                go_wp2_with fail
                refine region_in _ (by kernel_rfl) (by kernel_rfl) (fun hne => ?_)
                repeat (go_big_quiet_step ((first | (go_at_call 76; exact M1 _) | (go_at_call 113; exact M2 _) | (go_at_call 75; exact M3 _))))
                refine wpQuiet_nil ?_
                rintro _ ⟨y, rfl⟩
                go_wp2
                go_ret
                exact ⟨by rw [HF2.out]; rfl, HFI.out y⟩
              · rw [m1] at M1
                by_cases m2 : o.kind = 3
                · have m2' : (o.kind == 3) = true := by simpa using m2
                  obtain ⟨k5, q5', hk5, hq5, hpl⟩ := plc_pi u o.target (HPL.out (by omega))
                  obtain ⟨gp, rfl⟩ : ∃ gp, g5 = some ⟨gp, 0, none⟩ := by
                    have hl5 := (List.getElem?_eq_some_iff.1 hq5).1
                    rcases HPI.out.cases with ⟨hh, h0, _⟩ | ⟨gg, cap, hh, _⟩
                    · rw [h0] at hl5; simp at hl5
                    · simp at hh; exact ⟨gg, hh.1⟩
                  obtain ⟨q6, cs6, bb6, ho6, hP6, hou6⟩ := HPI.out.out (List.getElem?_eq_some_iff.1 hq5).1
                  rw [hq5] at ho6
                  simp only [Option.some.injEq] at ho6
                  subst ho6
                  obtain ⟨v6, rfl, hI6⟩ := hP6
                  obtain ⟨x6, y6, rfl⟩ := hI6.slice
                  have j1 := cellV hbV (cellB (hou6.cell 1 _ rfl))
                  have hk5l : k5 < u.pipes.length := (List.getElem?_eq_some_iff.1 hq5).1
                  have hk50 : (0 : Int) ≤ (k5 : Int) := by omega
                  have hk51 : (k5 : Int) < (u.pipes.length : Int) := by omega
                  rw [hk5] at M2
                  by_cases m3 : q5'.data.length = 0
                  · have m3' : ((q5'.data.length : Int) == 0) = true := beq_iff_eq.2 (by omega)
                    by_cases m4 : 0 < endsN u o.target 4
                    · have HF2 : Hid (r = true) := hd (by rw [HF.out]; unfold waitB; rw [hat, m1, decide_eq_true m2, hpl, decide_eq_true m3, decide_eq_true m4]; rfl)
                      have m4' : decide (0 < cnt (fun o_1 : Ope => decide (o_1.kind = 4) && decide (o_1.target = o.target)) u.opens) = true := by simpa [endsN] using m4
                      have m4'' : decide ((0 : Int) < ((cnt (fun o_1 : Ope => decide (o_1.kind = 4) && decide (o_1.target = o.target)) u.opens : Nat) : Int)) = true := by simpa [endsN] using m4
                      obtain ⟨en, hen⟩ : ∃ en, cnt (fun o_1 : Ope => decide (o_1.kind = 4) && decide (o_1.target = o.target)) u.opens = en := ⟨_, rfl⟩
                      rw [hen] at M3 m4' m4''
                      clear hen m4 m2 m3 HF hq5 hpl hou6 hI6
                      go_wp2_with fail
                      refine region_in _ (by kernel_rfl) (by kernel_rfl) (fun hne => ?_)
                      repeat (go_big_quiet_step ((first | (go_at_call 76; exact M1 _) | (go_at_call 113; exact M2 _) | (go_at_call 75; exact M3 _))))
                      refine wpQuiet_nil ?_
                      rintro _ ⟨y, rfl⟩
                      go_wp2
                      go_ret
                      exact ⟨by rw [HF2.out]; rfl, HFI.out y⟩
                    · have HF2 : Hid (r = false) := hd (by rw [HF.out]; unfold waitB; rw [hat, m1, decide_eq_true m2, hpl, decide_eq_true m3, decide_eq_false m4]; rfl)
                      have m4' : decide (0 < cnt (fun o_1 : Ope => decide (o_1.kind = 4) && decide (o_1.target = o.target)) u.opens) = false := by simpa [endsN] using m4
                      have m4'' : decide ((0 : Int) < ((cnt (fun o_1 : Ope => decide (o_1.kind = 4) && decide (o_1.target = o.target)) u.opens : Nat) : Int)) = false := by simpa [endsN] using m4
                      obtain ⟨en, hen⟩ : ∃ en, cnt (fun o_1 : Ope => decide (o_1.kind = 4) && decide (o_1.target = o.target)) u.opens = en := ⟨_, rfl⟩
                      rw [hen] at M3 m4' m4''
                      clear hen m4 m2 m3 HF hq5 hpl hou6 hI6
                      go_wp2_with fail
                      refine region_in _ (by kernel_rfl) (by kernel_rfl) (fun hne => ?_)
                      repeat (go_big_quiet_step ((first | (go_at_call 76; exact M1 _) | (go_at_call 113; exact M2 _) | (go_at_call 75; exact M3 _))))
                      refine wpQuiet_nil ?_
                      rintro _ ⟨y, rfl⟩
                      go_wp2
                      go_ret
                      exact ⟨by rw [HF2.out]; rfl, HFI.out y⟩
                  · have m3' : ((q5'.data.length : Int) == 0) = false := beq_eq_false_iff_ne.2 (by omega)
                    have HF2 : Hid (r = false) := hd (by rw [HF.out]; unfold waitB; rw [hat, m1, decide_eq_true m2, hpl, decide_eq_false m3]; rfl)
                    clear m2 m3 HF hq5 hpl hou6 hI6
                    go_wp2_with fail
                    refine region_in _ (by kernel_rfl) (by kernel_rfl) (fun hne => ?_)
                    repeat (go_big_quiet_step ((first | (go_at_call 76; exact M1 _) | (go_at_call 113; exact M2 _) | (go_at_call 75; exact M3 _))))
                    refine wpQuiet_nil ?_
                    rintro _ ⟨y, rfl⟩
                    go_wp2
                    go_ret
                    exact ⟨by rw [HF2.out]; rfl, HFI.out y⟩
                · have m2' : (o.kind == 3) = false := by simpa using m2
                  have HF2 : Hid (r = false) := hd (by rw [HF.out]; unfold waitB; rw [hat, m1, decide_eq_false m2]; rfl)
                  clear m2 HF
                  go_wp2_with fail
                  refine region_in _ (by kernel_rfl) (by kernel_rfl) (fun hne => ?_)
                  repeat (go_big_quiet_step ((first | (go_at_call 76; exact M1 _) | (go_at_call 113; exact M2 _) | (go_at_call 75; exact M3 _))))
                  refine wpQuiet_nil ?_
                  rintro _ ⟨y, rfl⟩
                  go_wp2
                  go_ret
                  exact ⟨by rw [HF2.out]; rfl, HFI.out y⟩
            · skip
              have q3 : (p.state == 3) = false := s3'
              have q4 : (p.state == 4) = false := by simp [s5]
              have q5 : (p.state == 5) = true := by simp [s5]
              have HF : Hid (r = waitB u p 4 3 4) := hd (by rw [← hr.out, if_neg s3, if_neg s6, if_neg (show ¬ p.state = 4 by omega), if_pos s5])
              have z3 : Y.cell? ⟨w.heap.size, 3, none⟩ = some (.slice g3 u.procs.length c3) := by rw [← hY]; exact a3 x
              clear a0 a1 a2 a3 a4 a5 a6 a7 a8 f0 f1 f2 f3 f4 b0 b1 b3 b4 b5 b6 b7 b8 b9 hr s3 s6 s5
              have z2 : Y.cell? ⟨w.heap.size + 1, 2, none⟩ = some (.int .i64 p.state) := by rw [← hY]; exact b2 x
              clear b2
              go_wp2_with fail
              go_cut [8] (fun s8 wx => CutO Y o s8 wx)
              case first =>
                go_region_held3 (fun X => Below Y.heap.size Y X ∧ X.cell? ⟨w.heap.size, 0, none⟩ = some (.int .i64 u.next) ∧ X.cell? ⟨w.heap.size, 1, none⟩ = some (.int .i64 u.tick) ∧ X.cell? ⟨w.heap.size, 2, none⟩ = some (p1) ∧ X.cell? ⟨w.heap.size, 3, none⟩ = some (.slice g3 u.procs.length c3) ∧ X.cell? ⟨w.heap.size, 4, none⟩ = some (.slice (some ⟨go, 0, none⟩) u.opens.length c4) ∧ X.cell? ⟨w.heap.size, 5, none⟩ = some (.slice g5 u.pipes.length c5) ∧ X.cell? ⟨w.heap.size, 6, none⟩ = some (p5) ∧ X.cell? ⟨w.heap.size, 7, none⟩ = some (p6) ∧ X.cell? ⟨w.heap.size, 8, none⟩ = some (p7) ∧ X.cell? ⟨w.heap.size + 1, 8, none⟩ = some (.int .i64 p.til) ∧ X.cell? ⟨go, kk * 5, none⟩ = some (.int .i64 o.id) ∧ X.cell? ⟨go, kk * 5 + 1, none⟩ = some (.int .i64 o.kind) ∧ X.cell? ⟨go, kk * 5 + 2, none⟩ = some (.int .i64 o.target) ∧ X.cell? ⟨go, kk * 5 + 3, none⟩ = some (.int .i64 o.off) ∧ X.cell? ⟨go, kk * 5 + 4, none⟩ = some (.int .i64 o.refs))
                  ((refine HSX.out _ ?_; repeat' first | with_reducible exact hB5 | with_reducible exact Below.refl _ _ | with_reducible refine bset ?_ (by first | omega | (simp <;> omega)) _ | with_reducible refine balloc ?_ _ | with_reducible apply Below.drew))
                  (first
                    | (go_at_call 72; refine (HLO2.out _ (‹Below Y.heap.size Y _ ∧ _›.1)).mono ?_; rintro e w5 ⟨rfl, hb5⟩; have hX5 := ‹Below Y.heap.size Y _ ∧ _›.1; have hB5 := hX5.trans (hb5.mono hX5.size); obtain ⟨hc5, hf5⟩ := InsJ.bcell hb5; have hz5 := hb5.size; have hzx := hX5.size; clear hb5 hX5; simp at hz5; (try (have hza : Y.heap.size < w5.heap.size := (by omega)))))
                all_goals
                  go_wp2_with fail
                  go_meet
                  refine ⟨_, rfl, by first | omega | (simp <;> omega), ?_, ?_, ?_, ?_, ?_, ?_⟩
                  · repeat' first | with_reducible exact hB5 | with_reducible refine bset ?_ (by first | omega | (simp <;> omega)) _ | with_reducible refine balloc ?_ _ | with_reducible apply Below.drew
                  all_goals (clear HSX HLO2 HLO HLP HLE HLH HRO HOP HPI HHO HHP HF HA HB; first | (simp [*]; done) | (simp [go_sem, *]; done) | (go_simp; done))
              case rest =>
              obtain ⟨g8, rfl, hge8, hbY, k0, k1, k2, k3, k4⟩ := hcut
              have hbV : Below W.heap.size W wc := HYW.out.trans (hbY.mono HYW.out.size)
              obtain ⟨V, hV⟩ : ∃ V, wc = V := ⟨_, rfl⟩
              rw [hV] at hbY k0 k1 k2 k3 k4 hbV ⊢
              obtain ⟨z0, hz0⟩ : ∃ z0 : Bel V, z0.w = V := ⟨⟨V, Below.refl _ _⟩, rfl⟩
              obtain ⟨a0, a1, a2, a3, a4, a5, a6, a7, a8⟩ := HA.out
              obtain ⟨b2, b7⟩ := HB.out
              replace a0 := cellV hbV a0
              replace a1 := cellV hbV a1
              replace a2 := cellV hbV a2
              replace a3 := cellV hbV a3
              replace a4 := cellV hbV a4
              replace a5 := cellV hbV a5
              replace a6 := cellV hbV a6
              replace a7 := cellV hbV a7
              replace a8 := cellV hbV a8
              replace b2 := cellV hbV b2
              replace b7 := cellV hbV b7
              replace k0 := cellB k0
              replace k1 := cellB k1
              replace k2 := cellB k2
              replace k3 := cellB k3
              replace k4 := cellB k4
              have M1 := HLH.out o.id V hbV
              have M2 := HLP.out o.target V hbV
              have M3 := HLE.out o.target 3 V hbV
              replace hz0 := hd hz0
              have HFI := hd (fun y : Bel V => Bel.fin HBB.out (y.up hbV))
              rw [← hz0.out]
              clear hV z2 z3
              cases m1 : p.fds.any (fun x => decide (x = o.id))
              · have HF2 : Hid (r = false) := hd (by rw [HF.out]; unfold waitB; rw [hat, m1]; rfl)
                rw [m1] at M1
                go_wp2_with fail
                refine region_in _ (by kernel_rfl) (by kernel_rfl) (fun hne => ?_)
                repeat (go_big_quiet_step ((first | (go_at_call 76; exact M1 _) | (go_at_call 113; exact M2 _) | (go_at_call 75; exact M3 _))))
                refine wpQuiet_nil ?_
                rintro _ ⟨y, rfl⟩
                go_wp2
                go_ret
                exact ⟨by rw [HF2.out]; rfl, HFI.out y⟩
              · rw [m1] at M1
                by_cases m2 : o.kind = 4
                · have m2' : (o.kind == 4) = true := by simpa using m2
                  obtain ⟨k5, q5', hk5, hq5, hpl⟩ := plc_pi u o.target (HPL.out (by omega))
                  obtain ⟨gp, rfl⟩ : ∃ gp, g5 = some ⟨gp, 0, none⟩ := by
                    have hl5 := (List.getElem?_eq_some_iff.1 hq5).1
                    rcases HPI.out.cases with ⟨hh, h0, _⟩ | ⟨gg, cap, hh, _⟩
                    · rw [h0] at hl5; simp at hl5
                    · simp at hh; exact ⟨gg, hh.1⟩
                  obtain ⟨q6, cs6, bb6, ho6, hP6, hou6⟩ := HPI.out.out (List.getElem?_eq_some_iff.1 hq5).1
                  rw [hq5] at ho6
                  simp only [Option.some.injEq] at ho6
                  subst ho6
                  obtain ⟨v6, rfl, hI6⟩ := hP6
                  obtain ⟨x6, y6, rfl⟩ := hI6.slice
                  have j1 := cellV hbV (cellB (hou6.cell 1 _ rfl))
                  have hk5l : k5 < u.pipes.length := (List.getElem?_eq_some_iff.1 hq5).1
                  have hk50 : (0 : Int) ≤ (k5 : Int) := by omega
                  have hk51 : (k5 : Int) < (u.pipes.length : Int) := by omega
                  rw [hk5] at M2
                  by_cases m3 : q5'.data.length = 4
                  · have m3' : ((q5'.data.length : Int) == 4) = true := beq_iff_eq.2 (by omega)
                    by_cases m4 : 0 < endsN u o.target 3
                    · have HF2 : Hid (r = true) := hd (by rw [HF.out]; unfold waitB; rw [hat, m1, decide_eq_true m2, hpl, decide_eq_true m3, decide_eq_true m4]; rfl)
                      have m4' : decide (0 < cnt (fun o_1 : Ope => decide (o_1.kind = 3) && decide (o_1.target = o.target)) u.opens) = true := by simpa [endsN] using m4
                      have m4'' : decide ((0 : Int) < ((cnt (fun o_1 : Ope => decide (o_1.kind = 3) && decide (o_1.target = o.target)) u.opens : Nat) : Int)) = true := by simpa [endsN] using m4
                      obtain ⟨en, hen⟩ : ∃ en, cnt (fun o_1 : Ope => decide (o_1.kind = 3) && decide (o_1.target = o.target)) u.opens = en := ⟨_, rfl⟩
                      rw [hen] at M3 m4' m4''
                      clear hen m4 m2 m3 HF hq5 hpl hou6 hI6
                      go_wp2_with fail
                      refine region_in _ (by kernel_rfl) (by kernel_rfl) (fun hne => ?_)
                      repeat (go_big_quiet_step ((first | (go_at_call 76; exact M1 _) | (go_at_call 113; exact M2 _) | (go_at_call 75; exact M3 _))))
                      refine wpQuiet_nil ?_
                      rintro _ ⟨y, rfl⟩
                      go_wp2
                      go_ret
                      exact ⟨by rw [HF2.out]; rfl, HFI.out y⟩
                    · have HF2 : Hid (r = false) := hd (by rw [HF.out]; unfold waitB; rw [hat, m1, decide_eq_true m2, hpl, decide_eq_true m3, decide_eq_false m4]; rfl)
                      have m4' : decide (0 < cnt (fun o_1 : Ope => decide (o_1.kind = 3) && decide (o_1.target = o.target)) u.opens) = false := by simpa [endsN] using m4
                      have m4'' : decide ((0 : Int) < ((cnt (fun o_1 : Ope => decide (o_1.kind = 3) && decide (o_1.target = o.target)) u.opens : Nat) : Int)) = false := by simpa [endsN] using m4
                      obtain ⟨en, hen⟩ : ∃ en, cnt (fun o_1 : Ope => decide (o_1.kind = 3) && decide (o_1.target = o.target)) u.opens = en := ⟨_, rfl⟩
                      rw [hen] at M3 m4' m4''
                      clear hen m4 m2 m3 HF hq5 hpl hou6 hI6
                      go_wp2_with fail
                      refine region_in _ (by kernel_rfl) (by kernel_rfl) (fun hne => ?_)
                      repeat (go_big_quiet_step ((first | (go_at_call 76; exact M1 _) | (go_at_call 113; exact M2 _) | (go_at_call 75; exact M3 _))))
                      refine wpQuiet_nil ?_
                      rintro _ ⟨y, rfl⟩
                      go_wp2
                      go_ret
                      exact ⟨by rw [HF2.out]; rfl, HFI.out y⟩
                  · have m3' : ((q5'.data.length : Int) == 4) = false := beq_eq_false_iff_ne.2 (by omega)
                    have HF2 : Hid (r = false) := hd (by rw [HF.out]; unfold waitB; rw [hat, m1, decide_eq_true m2, hpl, decide_eq_false m3]; rfl)
                    clear m2 m3 HF hq5 hpl hou6 hI6
                    go_wp2_with fail
                    refine region_in _ (by kernel_rfl) (by kernel_rfl) (fun hne => ?_)
                    repeat (go_big_quiet_step ((first | (go_at_call 76; exact M1 _) | (go_at_call 113; exact M2 _) | (go_at_call 75; exact M3 _))))
                    refine wpQuiet_nil ?_
                    rintro _ ⟨y, rfl⟩
                    go_wp2
                    go_ret
                    exact ⟨by rw [HF2.out]; rfl, HFI.out y⟩
                · have m2' : (o.kind == 4) = false := by simpa using m2
                  have HF2 : Hid (r = false) := hd (by rw [HF.out]; unfold waitB; rw [hat, m1, decide_eq_false m2]; rfl)
                  clear m2 HF
                  go_wp2_with fail
                  refine region_in _ (by kernel_rfl) (by kernel_rfl) (fun hne => ?_)
                  repeat (go_big_quiet_step ((first | (go_at_call 76; exact M1 _) | (go_at_call 113; exact M2 _) | (go_at_call 75; exact M3 _))))
                  refine wpQuiet_nil ?_
                  rintro _ ⟨y, rfl⟩
                  go_wp2
                  go_ret
                  exact ⟨by rw [HF2.out]; rfl, HFI.out y⟩
          · have s4' : (p.state == 4) = false := by simp; omega
            have s5' : (p.state == 5) = false := by simp; omega
            have HF2 : Hid (r = true) := hd (by rw [← hr.out, if_neg s3, if_neg s6, if_neg (by omega), if_neg (by omega)])
            clear s3 s6 s45 hr
            go_wp2
            go_ret
            exact ⟨by rw [HF2.out]; rfl, Bel.fin HBB.out _⟩

/-- What is right of all there is gives what l10Proc needs. -/
theorem right_op {u : Un} (h : usB u = true) (i : Nat) (p : Pr) (hp : u.procs[i]? = some p) : p.state = 4 ∨ p.state = 5 → 0 ≤ plc Ope.id u.opens p.til := by
  unfold usB at h
  simp only [Bool.and_eq_true] at h
  obtain ⟨_, h1, _⟩ := h
  have hi := (List.getElem?_eq_some_iff.1 hp).1
  have h2 := (MaU.allI_iff _ _).1 h1 i hi
  unfold gR procB at h2
  rw [getD_of hp] at h2
  simp only [Bool.and_eq_true] at h2
  obtain ⟨_, _, _, _, _, h3, _⟩ := h2
  intro hs
  unfold tilB at h3
  rw [if_neg (by omega), if_pos hs] at h3
  simpa using h3
theorem right_pi {u : Un} (h : usB u = true) (i : Nat) (o : Ope) (ho : u.opens[i]? = some o) : o.kind = 3 ∨ o.kind = 4 → 0 ≤ plc Pip.id u.pipes o.target := by
  unfold usB thingsB at h
  simp only [Bool.and_eq_true] at h
  obtain ⟨_, _, ⟨_, _, _, h1, _⟩, _⟩ := h
  have hi := (List.getElem?_eq_some_iff.1 ho).1
  have h2 := (MaU.allI_iff _ _).1 h1 i hi
  unfold gO openB at h2
  rw [getD_of ho] at h2
  simp only [Bool.and_eq_true] at h2
  obtain ⟨⟨_, h3⟩, _⟩ := h2
  intro hs
  unfold tgtB at h3
  rw [if_neg (by omega), if_neg (by omega), if_pos hs] at h3
  simp only [Bool.and_eq_true, decide_eq_true_eq] at h3
  exact h3.1
set_option maxHeartbeats 8000000 in
theorem sound_any (u : Un) (s : Vs) (b : Bl) (w : World) (hs : u.Sm) (hfd : sumF fdN u.procs ≤ 1048576) (hpg : pages u.procs ≤ 1048576) (h : UnO w s u b) :
    Calls Tryz.prog 12 #[u.v s] w fun e w' => e = .returned (.bool (soundB u)) ∧ Below w.heap.size w w' := by
  have hbb := box_below w (bx u s) 38
  have hA := cell_box w (bx u s).toList 38 _ rfl
  obtain ⟨W, hW⟩ : ∃ W, w.alloc (.cells (bx u s) 38) = W := ⟨_, rfl⟩
  rw [show (bx u s).toList.toArray = bx u s by simp, hW] at hA
  rw [hW] at hbb
  replace hW := hd hW
  have hU := h.below hbb
  have HOK := (callG (P := Tryz.prog) (W := W) fun X hb => SpF.spec_any u s b X hs hfd hpg (hU.below hb)).now
  have HPO := hd (fun (hr : usB u = true) (i : Nat) (p : Pr) (hp : u.procs[i]? = some p) v1 v2 v3 (h3 : Ints W v3 p.fds) => (callG (P := Tryz.prog) (W := W) fun X hb => l10Proc_any u s b p v1 v2 v3 X hs (hs.proc i p hp) (hU.below hb) (h3.below hb) (right_op hr i p hp) (right_pi hr)).now)
  have HRO := hd hU.procs
  have hlo := hs.procs
  obtain ⟨g3, c3, hv3⟩ := h.procs.slice
  have a0 := cellB (hA 0 _ rfl)
  have a1 := cellB (hA 1 _ rfl)
  have a2 := cellB (hA 2 _ rfl)
  have a3 := cellB (hA 3 _ rfl)
  have a4 := cellB (hA 4 _ rfl)
  have a5 := cellB (hA 5 _ rfl)
  have a6 := cellB (hA 6 _ rfl)
  have a7 := cellB (hA 7 _ rfl)
  have a8 := cellB (hA 8 _ rfl)
  obtain ⟨x0, hx0⟩ : ∃ x0 : Bel W, x0.w = W := ⟨⟨W, Below.refl _ _⟩, rfl⟩
  replace hx0 := hd hx0
  have HBB := hd hbb
  obtain ⟨p1, p2, p3, p4, p5, p6, p7⟩ := s
  simp only at a2 a3 a4 a5 a6 a7 a8 hv3 HRO
  subst hv3
  unfold Un.v at HOK HPO
  unfold ic at HOK HPO
  simp only at HOK HPO
  replace HOK := hd HOK
  unfold bx at hW
  unfold Un.v
  unfold ic
  simp only at hW ⊢
  obtain ⟨r, hr⟩ : ∃ r, soundB u = r := ⟨_, rfl⟩
  rw [hr]
  unfold soundB at hr
  replace hr := hd hr
  clear h hU hA hbb
  cases hq : usB u
  · rw [hq] at HOK
    have HF : Hid (r = false) := hd (by rw [← hr.out, hq]; rfl)
    go_enter Tryz.func12, Tryz.ntmps12
    go_wp2_with (go_at_call 8; fail)
    rw [hW.out, ← hx0.out]
    refine (HOK.out _).mono ?_
    rintro e w' ⟨rfl, y0, rfl⟩
    go_wp2
    go_ret
    exact ⟨by rw [HF.out]; rfl, Bel.fin HBB.out _⟩
  · rw [hq] at HOK
    have HT : Hid (r = u.procs.all (sndB u)) := hd (by rw [← hr.out, hq]; rfl)
    clear hr
    go_enter Tryz.func12, Tryz.ntmps12
    go_wp2_with (go_at_call 8; fail)
    rw [hW.out, ← hx0.out]
    refine (HOK.out _).mono ?_
    rintro e w' ⟨rfl, y0, rfl⟩
    go_wp2_with fail
    go_loopw [3] (fun i wr => ∃ k : Nat, k ≤ u.procs.length ∧ i = .int .i64 k ∧ Hid ((u.procs.take k).all (sndB u) = true) ∧ ∃ x : Bel W, wr = x.w) (fun i _ => u.procs.length - (intOf i).toNat)
    case atStart => exact ⟨0, Nat.zero_le _, rfl, hd (by simp), _, rfl⟩
    case round =>
      obtain ⟨k, hk, rfl, hall, x, rfl⟩ := hrel
      by_cases hlt : k < u.procs.length
      · obtain ⟨o, cs, bb, ho, hP, hou⟩ := HRO.out.out hlt
        obtain ⟨v1, v2, v3, b1, b2, b3, rfl, h1, h2, h3, _⟩ := hP
        have M := HPO.out hq k o ho v1 v2 v3 h3.ints
        obtain ⟨x1, y1, rfl⟩ := h1.slice
        obtain ⟨x2, y2, rfl⟩ := h2.slice
        obtain ⟨x3, y3, rfl⟩ := h3.slice
        obtain ⟨gg, rfl⟩ : ∃ gg, g3 = some ⟨gg, 0, none⟩ := by
          rcases HRO.out.cases with ⟨hh, h0, _⟩ | ⟨gg, cap, hh, _⟩
          · rw [h0] at hlt; simp at hlt
          · simp at hh; exact ⟨gg, hh.1⟩
        have d0 := cellB (hou.cell 0 _ rfl)
        have d1 := cellB (hou.cell 1 _ rfl)
        have d2 := cellB (hou.cell 2 _ rfl)
        have d3 := cellB (hou.cell 3 _ rfl)
        have d4 := cellB (hou.cell 4 _ rfl)
        have d5 := cellB (hou.cell 5 _ rfl)
        have d6 := cellB (hou.cell 6 _ rfl)
        have d7 := cellB (hou.cell 7 _ rfl)
        have d8 := cellB (hou.cell 8 _ rfl)
        have d9 := cellB (hou.cell 9 _ rfl)
        unfold ic at d0 d1 d2 d3 d4 d8 d9
        simp only [Nat.add_zero] at d0
        unfold Pr.cells at M
        unfold ic at M
        have hk0 : (0 : Int) ≤ (k : Int) := by omega
        have hk1 : (k : Int) < (u.procs.length : Int) := by omega
        cases sn : sndB u o
        · have HF : Hid (r = false) := hd (by
            rw [HT.out]
            exact List.all_eq_false.2 ⟨o, List.mem_of_getElem? ho, by simp [sn]⟩)
          rw [sn] at M
          clear ho hou h1 h2 h3
          go_wp2_with fail
          refine region_in _ (by kernel_rfl) (by kernel_rfl) (fun hne => ?_)
          repeat (go_big_quiet_step ((go_at_call 55; exact M _)))
          refine wpQuiet_nil ?_
          rintro _ ⟨y, rfl⟩
          go_wp2
          go_ret
          exact ⟨by rw [HF.out]; rfl, Bel.fin HBB.out _⟩
        · have HY : Hid ((u.procs.take (k + 1)).all (sndB u) = true) := hd (all_step' (sndB u) u.procs k o ho hall.out sn)
          rw [sn] at M
          clear ho hou h1 h2 h3
          go_wp2_with fail
          refine region_in _ (by kernel_rfl) (by kernel_rfl) (fun hne => ?_)
          repeat (go_big_quiet_step ((go_at_call 55; exact M _)))
          refine wpQuiet_nil ?_
          rintro _ ⟨y, rfl⟩
          go_wp2
          go_roundw
          case rel => exact ⟨k + 1, by omega, by go_num, HY, y, rfl⟩
          case measure => simp [intOf]; omega
      · obtain rfl : k = u.procs.length := by omega
        have HF : Hid (r = true) := hd (by have h1 := hall.out; rw [List.take_length] at h1; rw [HT.out, h1])
        go_wp2
        go_ret
        exact ⟨by rw [HF.out]; rfl, Bel.fin HBB.out _⟩

end Go.Proofs.YtighnfeifkgajaaGreat.SnT
