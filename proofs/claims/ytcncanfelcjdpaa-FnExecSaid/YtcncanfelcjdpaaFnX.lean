/- The walk of the law FnExec. Condition: none. -/
import Derived.Test.YtcncanfelcjdpaaSameI
import Derived.Test.YtcncanfelcjdpaaDrawY
import Derived.Deep.RegionWith
import Derived.BigRegion
namespace Go.Proofs.Ytcncanfelcjdpaa.FnX
open Go.RowKit Go.Deep Num InsC InsO ProgC ProgD IntC CpuC CpuS ExecT ExecJ ExecK ExecL CutX SameI
set_option maxRecDepth 100000
set_option linter.unusedVariables false
set_option linter.unusedSimpArgs false

theorem lies_slice {w : World} {v : Value} {p : List Q} (h : Lies w v p) : ∃ a c, v = .slice a p.length c := by
  rcases h with ⟨rfl, rfl⟩ | ⟨g, c, rfl, _⟩
  · exact ⟨_, _, rfl⟩
  · exact ⟨_, _, rfl⟩
theorem exec_two (p : List Q) (pc : Int) (r mem : List Int) : execX p pc r mem = (0, [], 2, -1, 0, 0) ∨ ((r.length = 4 ∧ (execX p pc r mem).2.1.length = 4) ∧ (execX p pc r mem = fault pc r ∨ ∃ (n : Nat) (q : Q), pc = (n : Int) ∧ n < 40 ∧ p[n]? = some q ∧ (execX p pc r mem).2.2.1 ≠ 2 ∧ Says q pc r mem.length (execX p pc r mem))) := by
  cases hok : okX p pc r mem
  · exact .inl (exec_no hok)
  · obtain ⟨h1, h2, h3, h5, h6, h4, h7⟩ := ok_parts hok
    obtain ⟨h40, hall⟩ := ShowA.prog_all h1
    rw [exec_yes hok]
    refine .inr ⟨⟨h4, by rw [ExecU.step_len]; exact h4⟩, ?_⟩
    obtain ⟨n, rfl⟩ := Int.eq_ofNat_of_zero_le h6.1
    cases hq : p[n]? with
    | none => exact .inl (by unfold stepX; rw [Int.toNat_natCast, hq])
    | some q =>
      have hn : n < p.length := (List.getElem?_eq_some_iff.1 hq).1
      have e : stepX p n r mem = ins1 q n r mem := by unfold stepX; rw [Int.toNat_natCast, hq]
      rw [e]
      rcases says q n r mem (hall n q hq) (by omega) (by omega) h4 h7 h5 with h | ⟨h, hs⟩
      · exact .inl h
      · exact .inr ⟨n, q, rfl, by omega, hq, h, hs⟩
theorem cell_reg {w : World} {g : Nat} {l : List Int} (hc : ∀ i (n : Int), l[i]? = some n → w.cell? ⟨g, i, none⟩ = some (.int .i64 n)) (k : Nat) (hk : k < l.length) : w.cell? ⟨g, k, none⟩ = some (.int .i64 (reg l k)) := by
  refine hc k _ ?_
  rw [List.getElem?_eq_getElem hk]
  simp [reg, List.getD, List.getElem?_eq_getElem hk]

set_option maxHeartbeats 8000000 in
theorem core (w : World) (a : Option Addr) (len cap : Nat) (cs : List UInt8) (c : DrawR.Code w a len cs) (hcap : len ≤ cap) (hbig : len ≤ 1048576) :
    Calls Try.prog 3 #[.slice a len cap] w fun e w' => e = .returned (.bool true) ∧ Below w.heap.size w w' := by
  have HD := hd (DrawY.draw_any w a len cap cs c hcap)
  clear c
  go_enter Try.func3, Try.ntmps3
  go_wp2_with (first
    | (go_at_call 6; refine (big_any _ _ _ _ hbig).mono ?_; rintro e w' ⟨rfl, rfl⟩)
    | (go_at_call 7; fail))
  refine HD.out.mono ?_
  rintro e w1 ⟨pv, p, pc, v, r, mv, mem, rfl, ⟨hL, hp⟩, ⟨hC, hr⟩, ⟨hM, hm⟩, hb1⟩
  obtain ⟨pa, pcp, rfl⟩ := lies_slice hL
  obtain ⟨va, vc, rfl⟩ := ints_slice hC
  obtain ⟨ma, mc, rfl⟩ := ints_slice hM
  have HI0 := hd (fun (X : World) v0 v1 v2 h0 h1 h2 => ExecL.impl_any v0 v1 v2 p pc r mem X h0 h1 h2 (by omega) (by omega) (by omega))
  have HS0 := hd (fun (X : World) v0 v1 v2 h0 h1 h2 => ExecV.spec_any v0 v1 v2 p pc r mem X h0 h1 h2 (by omega) (by omega) (by omega))
  have H2 := hd (exec_two p pc r mem)
  generalize execX p pc r mem = x at HI0 HS0 H2
  obtain ⟨xp, l, xk, xa, xv, xs⟩ := x
  unfold ExecPost cpu did at HI0 HS0
  dsimp only at HI0 HS0
  unfold cpu
  obtain ⟨W1, hW1⟩ : ∃ W1, w1.alloc (.cells #[.int .i64 pc, .slice va r.length vc] 27) = W1 := ⟨_, rfl⟩
  have hbA : Below w1.heap.size w1 W1 := by rw [← hW1]; exact (Below.refl _ _).alloc (Nat.le_refl _) _
  have HB4 : Hid (Box2 W1 w1.heap.size (.int .i64 pc) (.slice va r.length vc)) := hd (by rw [← hW1]; exact ⟨by rw [cell_at _ _ _ _ _ rfl]; rfl, by rw [cell_at _ _ _ _ _ rfl]; rfl⟩)
  have HL := hd (hL.below hbA)
  have HC := hd (hC.below hbA)
  have HM := hd (hM.below hbA)
  have HBE := hd (hb1.trans (hbA.mono hb1.size))
  have HW := hd hW1
  clear hL hC hM hbA hb1 hW1 HD
  go_wp2_with (go_at_call 8; fail)
  rw [HW.out]
  clear HW
  refine (HI0.out _ _ _ _ HL.out HC.out HM.out).mono ?_
  rintro e w2 ⟨⟨vg, rfl, hrg⟩, hb2⟩
  obtain ⟨ag, cg, rfl⟩ := own_slice hrg
  have RG := hd hrg
  replace HBE := hd (HBE.out.trans (hb2.mono HBE.out.size))
  replace HB4 := hd (HB4.out.below hb2)
  replace HL := hd (HL.out.below hb2)
  replace HC := hd (HC.out.below hb2)
  replace HM := hd (HM.out.below hb2)
  clear hrg hb2
  obtain ⟨Yw2, hYw2⟩ : ∃ Yw2, (w2.alloc (.cells #[.int .i64 xp, .slice ag l.length cg] 27)).alloc (.cells #[.int .i64 xk, .int .i64 xa, .int .i64 xv, .int .i64 xs] 31) = Yw2 := ⟨_, rfl⟩
  have hbA : Below w2.heap.size w2 Yw2 := by rw [← hYw2]; exact balloc (balloc (Below.refl _ _) _) _
  have HB6 : Hid (Box2 Yw2 w2.heap.size (.int .i64 xp) (.slice ag l.length cg)) := hd (by
    rw [← hYw2]
    exact ⟨by rw [World.cell?_alloc_lt _ _ _ (by simp), cell_at _ _ _ _ _ rfl]; rfl, by rw [World.cell?_alloc_lt _ _ _ (by simp), cell_at _ _ _ _ _ rfl]; rfl⟩)
  have HB7 : Hid (Box4 Yw2 (w2.heap.size + 1) xk xa xv xs) := hd (by
    rw [← hYw2]
    exact ⟨by rw [cell_at _ _ _ _ _ (by simp)]; rfl, by rw [cell_at _ _ _ _ _ (by simp)]; rfl, by rw [cell_at _ _ _ _ _ (by simp)]; rfl, by rw [cell_at _ _ _ _ _ (by simp)]; rfl⟩)
  have HYw2 := hd hYw2
  replace HBE := hd (HBE.out.trans (hbA.mono HBE.out.size))
  replace HB4 := hd (HB4.out.below hbA)
  replace HL := hd (HL.out.below hbA)
  replace HC := hd (HC.out.below hbA)
  replace HM := hd (HM.out.below hbA)
  replace RG := hd (own_below RG.out hbA)
  clear hbA hYw2
  obtain ⟨p0, p1⟩ := HB4.out
  rw [← HYw2.out] at p0 p1
  go_wp2_with (go_at_call 9; fail)
  rw [HYw2.out]
  clear p0 p1 HYw2
  refine (HS0.out _ _ _ _ HL.out HC.out HM.out).mono ?_
  rintro e w3 ⟨⟨vs, rfl, hrs⟩, hb3⟩
  obtain ⟨as0, cs0, rfl⟩ := own_slice hrs
  have RS := hd hrs
  replace HBE := hd (HBE.out.trans (hb3.mono HBE.out.size))
  replace HB4 := hd (HB4.out.below hb3)
  replace HL := hd (HL.out.below hb3)
  replace HC := hd (HC.out.below hb3)
  replace HM := hd (HM.out.below hb3)
  replace RG := hd (own_below RG.out hb3)
  replace HB6 := hd (HB6.out.below hb3)
  replace HB7 := hd (HB7.out.below hb3)
  clear hrs hb3
  obtain ⟨Yw3, hYw3⟩ : ∃ Yw3, (w3.alloc (.cells #[.int .i64 xp, .slice as0 l.length cs0] 27)).alloc (.cells #[.int .i64 xk, .int .i64 xa, .int .i64 xv, .int .i64 xs] 31) = Yw3 := ⟨_, rfl⟩
  have hbA : Below w3.heap.size w3 Yw3 := by rw [← hYw3]; exact balloc (balloc (Below.refl _ _) _) _
  have HB8 : Hid (Box2 Yw3 w3.heap.size (.int .i64 xp) (.slice as0 l.length cs0)) := hd (by
    rw [← hYw3]
    exact ⟨by rw [World.cell?_alloc_lt _ _ _ (by simp), cell_at _ _ _ _ _ rfl]; rfl, by rw [World.cell?_alloc_lt _ _ _ (by simp), cell_at _ _ _ _ _ rfl]; rfl⟩)
  have HB9 : Hid (Box4 Yw3 (w3.heap.size + 1) xk xa xv xs) := hd (by
    rw [← hYw3]
    exact ⟨by rw [cell_at _ _ _ _ _ (by simp)]; rfl, by rw [cell_at _ _ _ _ _ (by simp)]; rfl, by rw [cell_at _ _ _ _ _ (by simp)]; rfl, by rw [cell_at _ _ _ _ _ (by simp)]; rfl⟩)
  have HYw3 := hd hYw3
  replace HBE := hd (HBE.out.trans (hbA.mono HBE.out.size))
  replace HB4 := hd (HB4.out.below hbA)
  replace HL := hd (HL.out.below hbA)
  replace HC := hd (HC.out.below hbA)
  replace HM := hd (HM.out.below hbA)
  replace RG := hd (own_below RG.out hbA)
  replace HB6 := hd (HB6.out.below hbA)
  replace HB7 := hd (HB7.out.below hbA)
  replace RS := hd (own_below RS.out hbA)
  clear hbA hYw3
  have hll : l.length ≤ 1048576 := by
    rcases H2.out with h | ⟨⟨_, h⟩, _⟩
    · simp at h; rw [h.2.1]; simp
    · have h' : l.length = 4 := h
      omega
  obtain ⟨p0, p1⟩ := HB6.out
  obtain ⟨q0, q1, q2, q3⟩ := HB7.out
  obtain ⟨s0, s1⟩ := HB8.out
  obtain ⟨t0, t1, t2, t3⟩ := HB9.out
  rw [← HYw3.out] at p0 p1 q0 q1 q2 q3 s0 s1 t0 t1 t2 t3
  go_wp2_with (go_at_call 10; fail)
  rw [HYw3.out]
  clear p0 p1 q0 q1 q2 q3 s0 s1 t0 t1 t2 t3 HYw3
  refine (same_any _ _ l _ (ints_own RG.out) (ints_own RS.out) hll).mono ?_
  rintro e W ⟨rfl, hb4⟩
  replace HBE := hd (HBE.out.trans (hb4.mono HBE.out.size))
  replace HB4 := hd (HB4.out.below hb4)
  replace HL := hd (HL.out.below hb4)
  replace HC := hd (HC.out.below hb4)
  replace HM := hd (HM.out.below hb4)
  replace RG := hd (own_below RG.out hb4)
  replace HB6 := hd (HB6.out.below hb4)
  replace HB7 := hd (HB7.out.below hb4)
  replace RS := hd (own_below RS.out hb4)
  replace HB8 := hd (HB8.out.below hb4)
  replace HB9 := hd (HB9.out.below hb4)
  clear hb4 HB8 HB9 RS
  obtain ⟨b4, hb4'⟩ : ∃ b4, b4 = w1.heap.size := ⟨_, rfl⟩
  obtain ⟨b6, hb6'⟩ : ∃ b6, b6 = w2.heap.size := ⟨_, rfl⟩
  rw [← hb4'] at HB4 ⊢
  rw [← hb6'] at HB6 HB7 ⊢
  clear hb4' hb6'
  rcases H2.out with h | ⟨⟨hr4, hl4⟩, hrest⟩
  · simp at h
    obtain ⟨rfl, rfl, rfl, rfl, rfl, rfl⟩ := h
    obtain ⟨p0, p1⟩ := HB6.out
    obtain ⟨q0, q1, q2, q3⟩ := HB7.out
    clear H2
    go_wp2
    go_ret
    exact ⟨rfl, HBE.out⟩
  · replace hl4 : l.length = 4 := hl4
    obtain ⟨gg, cgg, eg, hgg, hgc⟩ := four_some (ints_own RG.out) hl4
    obtain ⟨gv, cgv, ev, hgv, hvc⟩ := four_some HC.out hr4
    simp at eg ev
    obtain ⟨rfl, _, rfl⟩ := eg
    obtain ⟨rfl, _, rfl⟩ := ev
    rw [hl4] at HB6
    rw [hr4] at HB4
    have HGC := hd hgc
    have HVC := hd hvc
    have HL4 := hd hl4
    have HR4 := hd hr4
    have hlb : b6 < W.heap.size := HB6.out.lt
    have hlb4 : b4 < W.heap.size := HB4.out.lt
    obtain ⟨p0, p1⟩ := HB6.out
    obtain ⟨f0, f1⟩ := HB4.out
    have HRE := hd hrest
    clear H2 hgc hvc hl4 hr4 hrest
    rw [HL4.out, HR4.out]
    go_wp2_with fail
    go_loopw [10, 11] (fun nv iv wr => ∃ k : Nat, k ≤ 4 ∧ nv = .int .i64 (dif l r k) ∧ iv = .int .i64 k ∧ Below W.heap.size W wr) (fun _ iv _ => 4 - (intOf iv).toNat)
    case atStart => exact ⟨0, by omega, rfl, rfl, Below.refl _ _⟩
    case round =>
      clear p0 p1 f0 f1
      obtain ⟨k, hk, rfl, rfl, hbel⟩ := hrel
      obtain ⟨p0, p1⟩ := HB6.out.below hbel
      obtain ⟨f0, f1⟩ := HB4.out.below hbel
      have hdl := dif_le l r k
      by_cases hlt : k < 4
      · have c0 := (hbel.cell (p := ⟨gg, k, none⟩) hgg).trans (cell_reg HGC.out k (by have := HL4.out; omega))
        have c1 := (hbel.cell (p := ⟨gv, k, none⟩) hgv).trans (cell_reg HVC.out k (by have := HR4.out; omega))
        have hk0 : (0 : Int) ≤ k := by omega
        have hk4 : (k : Int) < 4 := by omega
        have HST : Hid (dif l r (k + 1) = dif l r k + if reg l k = reg r k then 0 else 1) := hd rfl
        generalize reg l k = rl at *
        generalize reg r k = rr at *
        by_cases he : rl = rr
        · subst he
          have HE : Hid (dif l r (k + 1) = dif l r k) := hd (by rw [HST.out]; simp)
          clear HST
          go_wp2_with fail
          go_region
          all_goals
            go_wp2
            go_roundw
            case rel => exact ⟨k + 1, by omega, by rw [HE.out], by go_num, hbel.drew⟩
            case measure => simp [intOf]; omega
        · have HE : Hid (dif l r (k + 1) = dif l r k + 1) := hd (by rw [HST.out, if_neg he])
          have he1 : (rl == rr) = false := by simpa using he
          clear HST
          go_wp2_with fail
          go_region
          all_goals
            go_wp2
            go_roundw
            case rel => exact ⟨k + 1, by omega, by rw [HE.out]; go_num, by go_num, hbel.drew⟩
            case measure => simp [intOf]; omega
      · obtain rfl : k = 4 := by omega
        obtain ⟨q0, q1, q2, q3⟩ := HB7.out.below hbel
        have HBX := hd (HBE.out.trans (hbel.mono HBE.out.size))
        rcases HRE.out with h | ⟨n, q, hn, hn40, hq, hne, hs⟩
        · unfold CpuS.fault at h
          simp at h
          obtain ⟨rfl, rfl, rfl, rfl, rfl, rfl⟩ := h
          have hd0 : ((dif l l 4 : Nat) : Int) = 0 := by rw [dif_self]; rfl
          go_wp2
          go_ret
          exact ⟨rfl, HBX.out⟩
        · obtain ⟨hone, hok, hgo, has⟩ := hs
          dsimp only at hone hok hgo has hne
          subst hn
          have hltp : n < p.length := (List.getElem?_eq_some_iff.1 hq).1
          obtain ⟨pg, hpg, hpgl, d0, d1, d2, d3⟩ : ∃ pg, pa = some ⟨pg, 0, none⟩ ∧ pg < wr.heap.size ∧ wr.cell? ⟨pg, n * 4, none⟩ = some (.int .i64 q.o) ∧ wr.cell? ⟨pg, n * 4 + 1, none⟩ = some (.int .i64 q.a) ∧ wr.cell? ⟨pg, n * 4 + 2, none⟩ = some (.int .i64 q.b) ∧ wr.cell? ⟨pg, n * 4 + 3, none⟩ = some (.int .i64 q.c) := by
            rcases HL.out.below hbel with ⟨_, rfl⟩ | ⟨pg, c, e, hpg, hpc⟩
            · simp at hltp
            · simp at e
              exact ⟨pg, e.1, hpg, hpc n q hq⟩
          subst hpg
          have hn0 : (0 : Int) ≤ n := by omega
          have hn1 : (n : Int) < p.length := by omega
          have hk2 : (xk == 2) = false := by simpa using hne
          have hone' : ((dif l r 4 : Nat) : Int) ≤ 1 := by omega
          have hIg : Ints wr (.slice (some ⟨gg, 0, none⟩) 4 cg) l := .inr ⟨gg, cg, by rw [HL4.out], Nat.lt_of_lt_of_le hgg hbel.size, fun i x hi => (hbel.cell (p := ⟨gg, i, none⟩) hgg).trans (HGC.out i x hi)⟩
          have HI := hd hIg
          have hl6 : b6 < wr.heap.size := Nat.lt_of_lt_of_le hlb hbel.size
          have hl46 : b4 < wr.heap.size := Nat.lt_of_lt_of_le hlb4 hbel.size
          have hl7 : b6 + 1 < wr.heap.size := World.block_lt_of_cell? wr _ q0
          have HONE := hd hone'
          clear hq hne hIg hone
          generalize q.o = o at *
          generalize q.a = qa at *
          generalize q.b = qb at *
          generalize q.c = qc at *
          have hx1 : xp = (n : Int) + 1 ∨ (¬ xp = (n : Int) + 1 ∧ o = 6) ∨ (¬ xp = (n : Int) + 1 ∧ ¬ o = 6 ∧ o = 7) := by omega
          have hx2 : xa = -1 ∨ (¬ xa = -1 ∧ o = 5 ∧ xa < mem.length) := by omega
          have HG := hd hgo
          have HA := hd has
          clear hgo has
          obtain ⟨X9, hX9⟩ : ∃ X9, wr.alloc (.cells #[.int .i64 o, .int .i64 qa, .int .i64 qb, .int .i64 qc] 36) = X9 := ⟨_, rfl⟩
          have hbY : Below wr.heap.size wr X9 := by rw [← hX9]; exact (Below.refl _ _).alloc (Nat.le_refl _) _
          have g0 : X9.cell? ⟨wr.heap.size, 0, none⟩ = some (.int .i64 o) := by rw [← hX9, cell_at _ _ _ _ _ rfl]; rfl
          have hs9 : wr.heap.size < X9.heap.size := by rw [← hX9]; simp
          have HCP := hd (CpuS.spec_any xp (.slice (some ⟨gg, 0, none⟩) 4 cg) l X9 (HI.out.below hbY) (by have := HL4.out; omega))
          rw [hok] at HCP
          unfold cpu at HCP
          have HX9 := hd hX9
          have HY := hd hbY
          clear hX9 hbY hok
          go_wp2_with (go_at_call 11; fail)
          rw [HX9.out]
          clear HX9
          refine HCP.out.mono ?_
          rintro e w9 ⟨rfl, hb9⟩
          have j0 := (hb9.cell (p := ⟨wr.heap.size, 0, none⟩) hs9).trans g0
          have hbz := HY.out.trans (hb9.mono HY.out.size)
          replace p0 := (hbz.cell (p := ⟨b6, 0, none⟩) hl6).trans p0
          replace f0 := (hbz.cell (p := ⟨b4, 0, none⟩) hl46).trans f0
          replace q1 := (hbz.cell (p := ⟨b6 + 1, 1, none⟩) hl7).trans q1
          have HBZ := hd (HBX.out.trans (hbz.mono HBX.out.size))
          clear hb9 hbz g0 HCP HY p1 f1 q0 q2 q3 d0 d1 d2 d3 hbel
          rcases hx1 with h1 | ⟨h1, h2⟩ | ⟨h1, h2, h3⟩ <;> rcases hx2 with g1 | ⟨g1, g2, g3⟩
          all_goals
            first
              | (exfalso; omega)
              | (go_wp2
                 go_ret
                 exact ⟨rfl, HBZ.out⟩)

end Go.Proofs.Ytcncanfelcjdpaa.FnX
