/- What spec's l6Ready answers. Condition: none. -/
import Derived.Test.YtighnfeifkgajaaGreatSpA
import Derived.Deep.RegionWith
import Derived.BigRegion
namespace Go.Proofs.YtighnfeifkgajaaGreat.SpB
open Go.RowKit Go.Deep Num InsC InsO ProgC IntC RowC PrgL UnC PlcM SpA CpuS
set_option maxRecDepth 100000
set_option linter.unusedVariables false
set_option linter.unusedSimpArgs false

def isReady (p : Pr) : Bool := decide (p.state = 1)
def listed (rd : List Int) (p : Pr) : Bool := !isReady p || rd.any (fun x => decide (x = p.pid))
/-- Ready, as spec asks it. -/
def readyB (u : Un) : Bool := u.procs.all (listed u.ready) && decide (cnt isReady u.procs = u.ready.length)
set_option maxHeartbeats 2000000 in
theorem l6Ready_any (u : Un) (s : Vs) (b : Bl) (w : World) (hs : u.procs.length ≤ 1048576) (hrd : u.ready.length ≤ 1048576) (h : UnO w s u b) :
    Calls Tryz.prog 30 #[u.v s] w fun e w' => e = .returned (.bool (readyB u)) ∧ Below w.heap.size w w' := by
  have hbb := box_below w (bx u s) 38
  have HR := hd ((h.below hbb).procs)
  have HI := hd ((h.below hbb).ready.ints)
  obtain ⟨a, c, hv⟩ := h.procs.slice
  obtain ⟨a2, c2, hv2⟩ := h.ready.slice
  have h3 : (w.alloc (.cells (bx u s) 38)).cell? ⟨w.heap.size, 3, none⟩ = some s.procs := by rw [World.cell?_alloc_at _ _ _ _ rfl]; rfl
  have h7 : (w.alloc (.cells (bx u s) 38)).cell? ⟨w.heap.size, 7, none⟩ = some s.ready := by rw [World.cell?_alloc_at _ _ _ _ rfl]; rfl
  obtain ⟨W, hW⟩ : ∃ W, w.alloc (.cells (bx u s) 38) = W := ⟨_, rfl⟩
  have hlt0 : w.heap.size < W.heap.size := by rw [← hW]; simp
  rw [hW] at hbb HR HI h3 h7
  replace hW := hd hW
  obtain ⟨p1, p2, p3, p4, p5, p6, p7⟩ := s
  simp only at hv hv2 h3 h7
  subst hv hv2
  unfold bx at hW
  unfold Un.v
  unfold ic
  simp only at HR HI hW ⊢
  obtain ⟨r, hr⟩ : ∃ r, readyB u = r := ⟨_, rfl⟩
  rw [hr]
  unfold readyB at hr
  obtain ⟨l, hl⟩ : ∃ l, u.procs = l := ⟨_, rfl⟩
  obtain ⟨rd, hrd2⟩ : ∃ rd, u.ready = rd := ⟨_, rfl⟩
  rw [hl, hrd2] at hr hW
  rw [hl] at HR hs h3
  rw [hrd2] at HI hrd h7
  replace hr := hd hr
  have HBB := hd hbb
  rw [hl, hrd2]
  clear h hl hrd2 hbb
  go_enter Tryz.func30, Tryz.ntmps30
  go_wp2_with fail
  rw [hW.out]
  go_loopw [3, 4] (fun nv i wr => ∃ (k N : Nat), k ≤ l.length ∧ i = .int .i64 k ∧ nv = .int .i64 N ∧ N ≤ k ∧ Hid (N = cnt isReady (l.take k)) ∧ Hid ((l.take k).all (listed rd) = true) ∧ Below W.heap.size W wr) (fun _ i _ => l.length - (intOf i).toNat)
  case atStart => exact ⟨0, 0, Nat.zero_le _, rfl, rfl, by omega, hd rfl, hd rfl, Below.refl _ _⟩
  case round =>
    obtain ⟨k, N, hk, rfl, rfl, hN, hNo, hall, hbel⟩ := hrel
    have q3 := (hbel.cell (p := ⟨w.heap.size, 3, none⟩) hlt0).trans h3
    have q7 := (hbel.cell (p := ⟨w.heap.size, 7, none⟩) hlt0).trans h7
    clear h3 h7
    by_cases hlt : k < l.length
    · obtain ⟨g, rfl⟩ : ∃ g, a = some ⟨g, 0, none⟩ := by
        rcases HR.out.cases with ⟨hh, h0, _⟩ | ⟨g, cap, hh, _⟩
        · rw [h0] at hlt; simp at hlt
        · simp at hh; exact ⟨g, hh.1⟩
      obtain ⟨p, cs, b', hp, hP, ho⟩ := (HR.out.below good_pr hbel).out hlt
      obtain ⟨v1, v2, v3, b1, b2, b3, rfl, _⟩ := hP
      have c0 := ho.cell 0 _ rfl
      have c2 := ho.cell 2 _ rfl
      rw [Nat.add_zero] at c0
      unfold ic at c0 c2
      have HS := hd (cnt_step isReady l k p hp)
      have HA := hd (all_step' (listed rd) l k p hp hall.out)
      have HX : Hid (listed rd p = false → r = false) := hd (fun hf => by
        rw [← hr.out, show l.all (listed rd) = false from by rw [List.all_eq_false]; exact ⟨p, List.mem_of_getElem? hp, by simp [hf]⟩]
        rfl)
      have hk0 : (0 : Int) ≤ k := by omega
      have hk1 : (k : Int) < l.length := by omega
      clear ho hp hall
      by_cases e1 : p.state = 1
      · have HC : Hid (cnt isReady (l.take (k + 1)) = N + 1) := hd (by rw [HS.out, hNo.out]; simp [isReady, e1])
        have e1' : (p.state == 1) = true := by simpa using e1
        have HM := hd (fun W2 (hb : Below W.heap.size W W2) => l6Has_any _ rd p.pid W2 (HI.out.below hb) hrd)
        have HL : Hid (listed rd p = rd.any (fun x => decide (x = p.pid))) := hd (by simp [listed, isReady, e1])
        obtain ⟨z, hz⟩ : ∃ z, rd.any (fun x => decide (x = p.pid)) = z := ⟨_, rfl⟩
        rw [hz] at HM HL
        clear HS e1 hz hNo
        cases z
        · have HF := hd (HX.out HL.out)
          clear HA HX HL
          go_wp2_with fail
          go_region_with (go_at_call 76; refine (HM.out _ hbel.drew).mono ?_; rintro e w' ⟨rfl, rfl⟩)
          all_goals
            go_wp2
            go_ret
            exact ⟨by rw [HF.out]; rfl, HBB.out.trans (hbel.drew.mono HBB.out.size)⟩
        · have HT := hd (HA.out HL.out)
          clear HA HX HL
          go_wp2_with fail
          go_region_with (go_at_call 76; refine (HM.out _ hbel.drew).mono ?_; rintro e w' ⟨rfl, rfl⟩)
          all_goals
            go_wp2
            go_roundw
            case rel => exact ⟨k + 1, N + 1, by omega, by go_num, by go_num, by omega, hd HC.out.symm, HT, hbel.drew⟩
            case measure => simp [intOf]; omega
      · have HC : Hid (cnt isReady (l.take (k + 1)) = N) := hd (by rw [HS.out, hNo.out]; simp [isReady, e1])
        have e1' : (p.state == 1) = false := by simpa using e1
        have HT := hd (HA.out (by simp [listed, isReady, e1]))
        clear HA HX HS e1 hNo
        go_wp2
        go_roundw
        case rel => exact ⟨k + 1, N, by omega, by go_num, rfl, by omega, hd HC.out.symm, HT, hbel⟩
        case measure => simp [intOf]; omega
    · obtain rfl : k = l.length := by omega
      have HE : Hid (r = decide ((N : Int) = (rd.length : Int))) := hd (by
        rw [← hr.out]
        have h1 := hall.out
        have h2 := hNo.out
        rw [List.take_length] at h1 h2
        rw [h1, ← h2, Bool.true_and]
        exact decide_eq_decide.2 (by omega))
      go_wp2
      go_ret
      exact ⟨by rw [HE.out]; rfl, HBB.out.trans (hbel.mono HBB.out.size)⟩

end Go.Proofs.YtighnfeifkgajaaGreat.SpB
