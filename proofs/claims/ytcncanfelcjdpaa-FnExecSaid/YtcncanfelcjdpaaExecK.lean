/- What impl's Exec answers where there is an instruction. Condition: none. -/
import Derived.Test.YtcncanfelcjdpaaExecJ
import Derived.Deep.RegionWith
import Derived.BigRegion
import Derived.Deep.DeepCutAuto
import Derived.Deep.RegionHeld3
namespace Go.Proofs.Ytcncanfelcjdpaa.ExecK
open Go.RowKit Go.Deep Num InsC InsO ProgC ProgD IntC CpuC CpuS CoreI DoG ExecT ExecI ExecJ
set_option maxRecDepth 100000
set_option linter.unusedVariables false
set_option linter.unusedSimpArgs false

theorem same_of {X : World} {p : Addr} {v : Value} (h : (X.cell? p).isSome = true) : (X.setCell p v).cell? p = some v := by
  obtain ⟨u, hu⟩ := Option.isSome_iff_exists.1 h
  exact World.cell?_setCell_same _ _ _ hu
theorem frDrew {W n pc v} (h : Fr W n pc v) : Fr W.drew n pc v := ⟨h.lt, h.a0, h.a1, h.b0, h.b1, h.c0, h.c1, h.c2, h.c3, h.fb, h.fc⟩
set_option maxHeartbeats 8000000 in
theorem step_yes (pv mv : Value) (g cap : Nat) (p : List Q) (pc : Nat) (r mem : List Int) (w : World) (hL : Lies w pv p) (hg : g < w.heap.size) (hc : ∀ i (n : Int), r[i]? = some n → w.cell? ⟨g, i, none⟩ = some (.int .i64 n)) (hM : Ints w mv mem)
    (hp : progB p = true) (hcb : cpuB pc r = true) (hmb : CpuI.memB mem = true) (hpl : p.length ≤ 40) (hml : mem.length ≤ 64) (h4 : r.length = 4) (hpc : pc ≤ 40) (q : Q) (hq : p[pc]? = some q) (hqo : Q.ok q = true) (hrw : wordsB r = true) :
    Calls Try.prog 8 #[pv, cpu pc (.slice (some ⟨g, 0, none⟩) 4 cap), mv] w fun e w' => ExecPost (ins1 q pc r mem) w e w' ∧ Below w.heap.size w w' := by
  have hl4 := (set_len (q := q) (pc := pc) (r := r) (mem := mem)).trans h4
  generalize hx : ins1 q pc r mem = x at hl4 ⊢
  obtain ⟨xp, xr, xk, xa, xv, xs⟩ := x
  obtain ⟨t0, t1, t2, t3, rfl⟩ := four_of (r := xr) hl4
  have HX := hd hx
  clear hl4 hx
  have hC : Ints w (.slice (some ⟨g, 0, none⟩) 4 cap) r := .inr ⟨g, cap, by rw [h4], hg, hc⟩
  obtain ⟨ma, mc, rfl⟩ := ints_slice hM
  obtain ⟨pa, pcp, rfl⟩ : ∃ a c, pv = .slice a p.length c := by
    rcases hL with ⟨rfl, rfl⟩ | ⟨g, c, rfl, _⟩
    · exact ⟨_, _, rfl⟩
    · exact ⟨_, _, rfl⟩
  have hb0 := ExecI.start w pc (.slice (some ⟨g, 0, none⟩) 4 cap)
  have hF := Fr.new w pc (.slice (some ⟨g, 0, none⟩) 4 cap)
  have hpr := ProgD.impl_any _ _ _ (hL.below hb0) (by omega)
  rw [hp] at hpr
  have HC := hd hC
  have HLL := hd hL
  have HM := hd hM
  have Hc := hd hc
  have H4 := hd h4
  unfold cpu
  clear hL hC hM hc hp
  go_enter Try.func8, Try.ntmps8
  go_wp2_with (go_at_call 32; fail)
  refine hpr.mono ?_
  rintro e w1 ⟨rfl, hb1⟩
  have hF1 := hF.below hb1
  have hbe := hb0.trans (hb1.mono hb0.size)
  clear hpr hF hb0 hb1
  have hcp := CpuI.impl_any pc _ r w1 (HC.out.below hbe) (by omega)
  rw [hcb] at hcp
  unfold cpu at hcp
  have k0 := hF1.a0
  have k1 := hF1.a1
  clear hcb
  go_wp2_with (go_at_call 14; fail)
  refine hcp.mono ?_
  rintro e w2 ⟨rfl, hb2⟩
  replace hF1 := hF1.below hb2
  replace hbe := hbe.trans (hb2.mono hbe.size)
  clear hcp k0 k1 hb2
  have hwm := hd (CpuI.memOk_any _ mem w2 (HM.out.below hbe) (by omega))
  rw [hmb] at hwm
  have k0 := hF1.a0
  have k1 := hF1.a1
  have hco := hd (coreOf_any pc g cap r w2 h4 (Nat.lt_of_lt_of_le hg hbe.size) (fun i n hi => (hbe.cell (p := ⟨g, i, none⟩) hg).trans (Hc.out i n hi)))
  unfold cpu at hco
  clear hmb h4
  go_wp2_with (first
    | (go_at_call 33; refine hwm.out.mono ?_; rintro e w' ⟨rfl, rfl⟩)
    | (go_at_call 35; fail))
  refine hco.out.mono ?_
  rintro e w3 ⟨rfl, hb3⟩
  replace hF1 := hF1.below hb3
  replace hbe := hbe.trans (hb3.mono hbe.size)
  clear hco hwm k0 k1 hb3
  obtain ⟨r0, r1, r2, r3, rfl⟩ := four_of H4.out
  unfold core
  simp only [List.map_cons, List.map_nil, ic]
  obtain ⟨W4, hW4⟩ : ∃ W4, w3.alloc (.cells #[.int .i64 (pc : Int), .int .i64 r0, .int .i64 r1, .int .i64 r2, .int .i64 r3] 65) = W4 := ⟨_, rfl⟩
  have hs4 : Below w3.heap.size w3 W4 := by rw [← hW4]; exact (Below.refl _ _).alloc (Nat.le_refl _) _
  have hlt : pc < p.length := (List.getElem?_eq_some_iff.1 hq).1
  have hF4 := hF1.below hs4
  have hbe4 := hbe.trans (hs4.mono hbe.size)
  have hlt4 := hF4.lt
  have hdo := fun (X : World) (hX : Below W4.heap.size W4 X) => do_any pc q (.slice ma mem.length mc) [r0, r1, r2, r3] mem X rfl hpc hqo hrw (HM.out.below (hbe4.trans (hX.mono hbe4.size))) hml
  obtain ⟨pg, hpg, d0, d1, d2, d3⟩ : ∃ pg, pa = some ⟨pg, 0, none⟩ ∧ W4.cell? ⟨pg, pc * 4, none⟩ = some (.int .i64 q.o) ∧ W4.cell? ⟨pg, pc * 4 + 1, none⟩ = some (.int .i64 q.a) ∧ W4.cell? ⟨pg, pc * 4 + 2, none⟩ = some (.int .i64 q.b) ∧ W4.cell? ⟨pg, pc * 4 + 3, none⟩ = some (.int .i64 q.c) := by
    rcases HLL.out.below hbe4 with ⟨_, rfl⟩ | ⟨pg, c, e, hpg, hpc⟩
    · simp at hlt
    · simp at e
      exact ⟨pg, e.1, hpc pc q hq⟩
  subst hpg
  unfold DoPost core did at hdo
  rw [HX.out] at hdo
  dsimp only at hdo
  clear HX
  simp only [List.map_cons, List.map_nil, ic] at hdo
  have m0 : W4.cell? ⟨w3.heap.size, 0, none⟩ = some (.int .i64 pc) := by rw [← hW4, World.cell?_alloc_at _ _ _ _ rfl]; rfl
  have m1 : W4.cell? ⟨w3.heap.size, 1, none⟩ = some (.int .i64 r0) := by rw [← hW4, World.cell?_alloc_at _ _ _ _ rfl]; rfl
  have m2 : W4.cell? ⟨w3.heap.size, 2, none⟩ = some (.int .i64 r1) := by rw [← hW4, World.cell?_alloc_at _ _ _ _ rfl]; rfl
  have m3 : W4.cell? ⟨w3.heap.size, 3, none⟩ = some (.int .i64 r2) := by rw [← hW4, World.cell?_alloc_at _ _ _ _ rfl]; rfl
  have m4 : W4.cell? ⟨w3.heap.size, 4, none⟩ = some (.int .i64 r3) := by rw [← hW4, World.cell?_alloc_at _ _ _ _ rfl]; rfl
  have HDO := hd hdo
  have HW := hd hW4
  have hge' : decide ((p.length : Int) ≤ pc) = false := by simp; omega
  have hpc0 : (0 : Int) ≤ pc := by omega
  have hpc1 : (pc : Int) < p.length := by omega
  clear hdo hW4 hF1 hs4 hq hqo hrw HLL
  go_wp2_with fail
  rw [HW.out]
  clear HW
  have hpgl : pg < W4.heap.size := World.block_lt_of_cell? W4 _ d0
  have hg3l : w3.heap.size < W4.heap.size := World.block_lt_of_cell? W4 _ m0
  have hpgl1 : pg < W4.heap.size + 1 := by omega
  have hg3l1 : w3.heap.size < W4.heap.size + 1 := by omega
  generalize w3.heap.size = g3 at *
  go_cut [9, 10] (fun s9 s10 wx => Cut6 W4 xp t0 t1 t2 t3 xk xa xv xs s9 s10 wx)
  case first =>
    have HS := hd (fun (X : World) (hX : Below W4.heap.size W4 X) => keepJ (Y := X) hg3l hpgl ⟨m0, m1, m2, m3, m4, d0, d1, d2, d3, Below.refl _ _⟩ hX)
    clear m0 m1 m2 m3 m4 d0 d1 d2 d3
    go_region_held3 (fun X => X.cell? ⟨g3, 0, none⟩ = some (.int .i64 (pc : Int)) ∧ X.cell? ⟨g3, 1, none⟩ = some (.int .i64 r0) ∧ X.cell? ⟨g3, 2, none⟩ = some (.int .i64 r1) ∧ X.cell? ⟨g3, 3, none⟩ = some (.int .i64 r2) ∧ X.cell? ⟨g3, 4, none⟩ = some (.int .i64 r3) ∧ X.cell? ⟨pg, pc * 4, none⟩ = some (.int .i64 q.o) ∧ X.cell? ⟨pg, pc * 4 + 1, none⟩ = some (.int .i64 q.a) ∧ X.cell? ⟨pg, pc * 4 + 2, none⟩ = some (.int .i64 q.b) ∧ X.cell? ⟨pg, pc * 4 + 3, none⟩ = some (.int .i64 q.c) ∧ Below W4.heap.size W4 X)
      ((refine HS.out _ ?_; repeat' first | with_reducible exact hB5 | with_reducible exact Below.refl _ _ | with_reducible refine bset ?_ (by simp <;> omega) _ | with_reducible refine balloc ?_ _ | with_reducible apply Below.drew))
      (first
        | (go_at_call 37; refine (HDO.out _ (‹_ ∧ _ ∧ _ ∧ _ ∧ _ ∧ _ ∧ _ ∧ _ ∧ _ ∧ Below W4.heap.size W4 _›.2.2.2.2.2.2.2.2.2)).mono ?_; rintro e w5 ⟨rfl, hb5⟩; have hX5 := ‹_ ∧ _ ∧ _ ∧ _ ∧ _ ∧ _ ∧ _ ∧ _ ∧ _ ∧ Below W4.heap.size W4 _›.2.2.2.2.2.2.2.2.2; have hB5 := hX5.trans (hb5.mono hX5.size); obtain ⟨hc5, hf5⟩ := InsJ.bcell hb5; have hz5 := hb5.size; clear hb5 hX5; simp at hz5; (try (have hza : W4.heap.size < w5.heap.size := by omega)); (try (have hzc : ¬ w5.heap.size = W4.heap.size := by omega)); (try (have hzd : ¬ W4.heap.size = w5.heap.size := by omega)); (try (have hzb : W4.heap.size + 1 < w5.heap.size := by omega))))
    all_goals
      go_wp2_with fail
      go_meet
      refine ⟨_, _, rfl, rfl, ⟨by omega, by omega⟩, ?_, ⟨?_, ?_, ?_, ?_, ?_⟩, ⟨?_, ?_, ?_, ?_⟩⟩
      · repeat' first | with_reducible exact hB5 | with_reducible refine bset ?_ (by simp <;> omega) _ | with_reducible refine balloc ?_ _ | with_reducible apply Below.drew
      all_goals (clear HS HDO HM HC Hc H4 hF4; first | (simp [*]; done) | (simp [go_sem, *]; done) | (go_simp; refine same_of ?_; go_simp))
  case rest =>
  obtain ⟨b9, b10, rfl, rfl, ⟨hge9, hge10⟩, hb6, ⟨n0, n1, n2, n3, n4⟩, ⟨e0, e1, e2, e3⟩⟩ := hcut
  have hcu := cpu_any xp [t0, t1, t2, t3] wc.drew rfl
  unfold cpu core at hcu
  simp only [List.map_cons, List.map_nil, ic] at hcu
  have HCU := hd hcu
  have hF6 := frDrew (hF4.below hb6)
  have hbe6 := hbe4.trans (hb6.mono hbe4.size)
  have hl10 : b10 < wc.drew.heap.size := World.block_lt_of_cell? wc _ e0
  have hlt6 := hF6.lt
  have hne1 : ¬ b10 = w.heap.size + 1 := by omega
  have hne2 : ¬ w.heap.size + 1 = b10 := by omega
  have HF := hd hF6
  have HBE := hd hbe6
  clear hcu hF6 hF4 hbe4 hb6 hbe6 m0 m1 m2 m3 m4 d0 d1 d2 d3 HDO hpgl hpgl1 hg3l hg3l1 HM HC Hc H4 hbe
  go_wp2_with fail
  go_region_with (go_at_call 36; refine HCU.out.mono ?_; rintro e w8 ⟨v8, rfl, hr8, hb8⟩; obtain ⟨a8, c8, rfl⟩ := own_slice hr8; have k0 := (hb8.cell (p := ⟨b10, 0, none⟩) hl10).trans e0; have k1 := (hb8.cell (p := ⟨b10, 1, none⟩) hl10).trans e1; have k2 := (hb8.cell (p := ⟨b10, 2, none⟩) hl10).trans e2; have k3 := (hb8.cell (p := ⟨b10, 3, none⟩) hl10).trans e3; have hF8 := HF.out.below hb8; have H6 := hd (hF8.six (.int .i64 xp) (.slice a8 4 c8) (.int .i64 xk) (.int .i64 xa) (.int .i64 xv) (.int .i64 xs)); have HR := hd hr8; have HB8 := hd hb8; clear hr8 hb8; obtain ⟨_, a0, a1, b0, b1, c0, c1, c2, c3, fb, fc⟩ := hF8)
  all_goals
    go_wp2
    obtain ⟨z0, z1, z2, z3, z4, z5⟩ := H6.out
    unfold six at z0 z1 z2 z3 z4 z5
    have hb8 := HBE.out.drew.trans (HB8.out.mono HBE.out.drew.size)
    refine bodyPost_ret (v := .tuple #[.agg #[.int .i64 xp, .slice a8 4 c8], .agg #[.int .i64 xk, .int .i64 xa, .int .i64 xv, .int .i64 xs]]) (by simp [results, Try.results8, go_sem, z0, z1, z2, z3, z4, z5]) rfl ⟨⟨.slice a8 4 c8, rfl, ?_⟩, six_below hb8 _ _ _ _ _ _⟩
    exact own_mono (own_set (own_set (own_set (own_set (own_set (own_set HR.out (by omega)) (by omega)) (by omega)) (by omega)) (by omega)) (by omega)) HBE.out.drew.size

end Go.Proofs.Ytcncanfelcjdpaa.ExecK
