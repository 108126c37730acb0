/- At every Unix the law FnExactHeld answers true: impl's Held answers as spec's, and writes nothing of it. Conditions: none. -/
import Derived.Test.YtighnfeifkgajaaGreatRows
import Derived.Test.YtighnfeifkgajaaGreatToV
import Derived.Test.YtighnfeifkgajaaGreatSzV
import Derived.Test.YtighnfeifkgajaaGreatUnE
import Derived.Test.YtighnfeifkgajaaGreatSnT
import Derived.Test.YtighnfeifkgajaaGreatMaU
import Derived.Test.YtighnfeifkgajaaGreatArgW
import Derived.Test.YtighnfeifkgajaaGreatBel
import Derived.Test.YtighnfeifkgajaaGreatSnX
import Derived.WalkKit
import Derived.ProofKit
import Derived.OpenShut
import Derived.ShutString
import Derived.ChangeOld
import Derived.Below
namespace Go.Proofs.YtighnfeifkgajaaGreat.fnExactHeld
open Go.ChangeShapes Go.WideShapes Go.ChangeAt Go.RowKit
set_option linter.unusedVariables false

theorem own : ownKnob Tryz.prog.godebug = none := by kernel_rfl
theorem laidOut : laidOutB Tryz.prog = true := by kernel_rfl

set_option maxHeartbeats 4000000 in
theorem walk (v0 : Value) (w : World) (o0 : ArgW.IsUnixW w v0) :
    Calls Tryz.prog 6 #[v0] w fun e w' => e = .returned (.bool true) ∧ Below w.heap.size w w' := by
  obtain ⟨u, s, rfl, hu, hwp, hwr⟩ := o0
  have hbb : Below w.heap.size w (w.alloc (.cells #[.int .i64 u.next, .int .i64 u.tick, s.progs, s.procs, s.opens, s.pipes, s.files, s.ready, s.out] 29)) := (Below.refl _ w).alloc (Nat.le_refl _) _
  have hA := UnC.cell_box w [.int .i64 u.next, .int .i64 u.tick, s.progs, s.procs, s.opens, s.pipes, s.files, s.ready, s.out] 29 _ rfl
  obtain ⟨W, hW⟩ : ∃ W, w.alloc (.cells #[.int .i64 u.next, .int .i64 u.tick, s.progs, s.procs, s.opens, s.pipes, s.files, s.ready, s.out] 29) = W := ⟨_, rfl⟩
  rw [hW] at hbb
  rw [show ([.int .i64 u.next, .int .i64 u.tick, s.progs, s.procs, s.opens, s.pipes, s.files, s.ready, s.out] : List Value).toArray = #[.int .i64 u.next, .int .i64 u.tick, s.progs, s.procs, s.opens, s.pipes, s.files, s.ready, s.out] from rfl, hW] at hA
  have hlt0 : w.heap.size < W.heap.size := by rw [← hW]; simp
  have HUA := Num.hd (fun (X : World) (hb : Below W.heap.size W X) => ArgW.below_un hu (hbb.trans (hb.mono hbb.size)))
  have HSZ := Num.hd (Bel.callB (P := Tryz.prog) (W := W) fun X hb => SzV.szUnix_any u s 1048576 X (HUA.out X hb) (by omega) (by omega))
  have a0 := Bel.cellB (hA 0 _ rfl)
  have a1 := Bel.cellB (hA 1 _ rfl)
  have a2 := Bel.cellB (hA 2 _ rfl)
  have a3 := Bel.cellB (hA 3 _ rfl)
  have a4 := Bel.cellB (hA 4 _ rfl)
  have a5 := Bel.cellB (hA 5 _ rfl)
  have a6 := Bel.cellB (hA 6 _ rfl)
  have a7 := Bel.cellB (hA 7 _ rfl)
  have a8 := Bel.cellB (hA 8 _ rfl)
  obtain ⟨x0, hx0⟩ : ∃ x0 : Bel.Bel W, x0.w = W := ⟨⟨W, Below.refl _ _⟩, rfl⟩
  replace hx0 := Num.hd hx0
  replace hW := Num.hd hW
  have HBB := Num.hd hbb
  clear hA hu hbb
  unfold UnC.Un.v at *
  unfold IntC.ic at *
  by_cases hbig : SzV.wUn u ≤ 1048576
  · have hszv : SzU.szR 1048576 (SzV.wUn u) = 1048576 - (SzV.wUn u : Int) := SzU.szR_yes (by omega)
    rw [hszv] at HSZ
    have hneg : decide ((1048576 : Int) - (SzV.wUn u : Int) < 0) = false := by simp; omega
    obtain ⟨hsm, hfd, hpg⟩ := ArgW.small u hbig
    have HT := Num.hd (fun (x : Bel.Bel W) => ToV.toUnix_any u s x.w hsm (HUA.out x.w x.ok))
    unfold ToV.ToPost at HT
    have HSP := Num.hd (fun s1 b1 (X : World) (h : UnC.UnO X s1 u b1) => SnS.held_any u s1 b1 X hsm hfd hpg h)
    have HIM := Num.hd (fun s1 b1 (X : World) (h : UnC.UnO X s1 u b1) => SnX.impl_Held u s1 b1 X hsm hfd hpg hwp hwr h)
    have HEQ := Num.hd (fun s1 s2 b1 b2 (X : World) (h : UnC.UnO X s1 u b1) (h2 : UnC.UnO X s2 u b2) => UnE.eqUnix_any u s1 s2 b1 b2 X hsm h h2)
    obtain ⟨q, hq⟩ : ∃ q, SnS.heldN u = q := ⟨_, rfl⟩
    rw [hq] at HSP HIM
    unfold UnC.Un.v at HT HSP HIM HEQ
    unfold IntC.ic at HT HSP HIM HEQ
    clear hq hbig hszv HUA hwp hwr
    go_enter Tryz.func6, Tryz.ntmps6
    go_wp2_with (go_at_call 7; fail)
    rw [hW.out, ← hx0.out]
    refine (HSZ.out _).mono ?_
    rintro e w0 ⟨rfl, y0, rfl⟩
    go_wp2_with (go_at_call 9; fail)
    refine (HT.out y0).mono ?_
    rintro e w1 ⟨s1, b1, rfl, hu1, _, _, hb1⟩
    obtain ⟨y1, rfl⟩ : ∃ y1 : Bel.Bel W, w1 = y1.w := ⟨⟨w1, y0.ok.trans (hb1.mono y0.ok.size)⟩, rfl⟩
    clear hb1
    go_wp2_with (go_at_call 16; fail)
    refine (HSP.out s1 b1 y1.w hu1).mono ?_
    rintro e w2 ⟨rfl, hb2⟩
    obtain ⟨y2, rfl⟩ : ∃ y2 : Bel.Bel W, w2 = y2.w := ⟨⟨w2, y1.ok.trans (hb2.mono y1.ok.size)⟩, rfl⟩
    clear hb2 hu1
    go_wp2_with (go_at_call 9; fail)
    refine (HT.out y2).mono ?_
    rintro e w3 ⟨⟨z1, z2, z3, z4, z5, z6, z7⟩, b3, rfl, hu3, _, _, hb3⟩
    obtain ⟨y3, rfl⟩ : ∃ y3 : Bel.Bel W, w3 = y3.w := ⟨⟨w3, y2.ok.trans (hb3.mono y2.ok.size)⟩, rfl⟩
    clear hb3
    simp only
    obtain ⟨x1, c1, ez1⟩ := hu3.progs.slice
    obtain ⟨x2, c2, ez2⟩ := hu3.procs.slice
    obtain ⟨x3, c3, ez3⟩ := hu3.opens.slice
    obtain ⟨x4, c4, ez4⟩ := hu3.pipes.slice
    obtain ⟨x5, c5, ez5⟩ := hu3.files.slice
    obtain ⟨x6, c6, ez6⟩ := hu3.ready.slice
    obtain ⟨x7, c7, ez7⟩ := hu3.out.slice
    simp only at ez1 ez2 ez3 ez4 ez5 ez6 ez7
    subst ez1 ez2 ez3 ez4 ez5 ez6 ez7
    have hb4 := y3.box (.cells #[.int .i64 u.next, .int .i64 u.tick, (.slice x1 u.progs.length c1), (.slice x2 u.procs.length c2), (.slice x3 u.opens.length c3), (.slice x4 u.pipes.length c4), (.slice x5 u.files.length c5), (.slice x6 u.ready.length c6), (.slice x7 u.out.length c7)] 38)
    have hs4 : Below y3.w.heap.size y3.w (y3.w.alloc (.cells #[.int .i64 u.next, .int .i64 u.tick, (.slice x1 u.progs.length c1), (.slice x2 u.procs.length c2), (.slice x3 u.opens.length c3), (.slice x4 u.pipes.length c4), (.slice x5 u.files.length c5), (.slice x6 u.ready.length c6), (.slice x7 u.out.length c7)] 38)) := (Below.refl _ _).alloc (Nat.le_refl _) _
    have hC := UnC.cell_box y3.w [.int .i64 u.next, .int .i64 u.tick, (.slice x1 u.progs.length c1), (.slice x2 u.procs.length c2), (.slice x3 u.opens.length c3), (.slice x4 u.pipes.length c4), (.slice x5 u.files.length c5), (.slice x6 u.ready.length c6), (.slice x7 u.out.length c7)] 38 _ rfl
    obtain ⟨V, hV⟩ : ∃ V, y3.w.alloc (.cells #[.int .i64 u.next, .int .i64 u.tick, (.slice x1 u.progs.length c1), (.slice x2 u.procs.length c2), (.slice x3 u.opens.length c3), (.slice x4 u.pipes.length c4), (.slice x5 u.files.length c5), (.slice x6 u.ready.length c6), (.slice x7 u.out.length c7)] 38) = V := ⟨_, rfl⟩
    rw [show ([.int .i64 u.next, .int .i64 u.tick, (.slice x1 u.progs.length c1), (.slice x2 u.procs.length c2), (.slice x3 u.opens.length c3), (.slice x4 u.pipes.length c4), (.slice x5 u.files.length c5), (.slice x6 u.ready.length c6), (.slice x7 u.out.length c7)] : List Value).toArray = #[.int .i64 u.next, .int .i64 u.tick, (.slice x1 u.progs.length c1), (.slice x2 u.procs.length c2), (.slice x3 u.opens.length c3), (.slice x4 u.pipes.length c4), (.slice x5 u.files.length c5), (.slice x6 u.ready.length c6), (.slice x7 u.out.length c7)] from rfl, hV] at hC
    rw [hV] at hb4 hs4
    have hu4 := hu3.below hs4
    replace hV := Num.hd hV
    go_wp2_with (go_at_call 17; fail)
    rw [hV.out]
    refine (HIM.out _ b3 V hu4).mono ?_
    rintro e W6 ⟨rfl, hb6⟩
    have hu6 := hu4.below hb6
    have g3lt : y3.w.heap.size < V.heap.size := by rw [← hV.out]; simp
    obtain ⟨g3, hg3⟩ : ∃ g3, y3.w.heap.size = g3 := ⟨_, rfl⟩
    rw [hg3] at hC g3lt
    have hbW6 : Below W.heap.size W W6 := hb4.trans (hb6.mono hb4.size)
    have hC6 : ∀ j x, ([.int .i64 u.next, .int .i64 u.tick, (.slice x1 u.progs.length c1), (.slice x2 u.procs.length c2), (.slice x3 u.opens.length c3), (.slice x4 u.pipes.length c4), (.slice x5 u.files.length c5), (.slice x6 u.ready.length c6), (.slice x7 u.out.length c7)] : List Value)[j]? = some x → W6.cell? ⟨g3, j, none⟩ = some x := fun j x hx => (hb6.cell (p := ⟨g3, j, none⟩) g3lt).trans (hC j x hx)
    have hlt6 : w.heap.size < W6.heap.size := Nat.lt_of_lt_of_le hlt0 hbW6.size
    have hg6 : g3 < W6.heap.size := Nat.lt_of_lt_of_le g3lt hb6.size
    obtain ⟨t1, t2, t3, t4, t5, t6, t7⟩ := s
    simp only at a2 a3 a4 a5 a6 a7 a8 HT hu6
    have HSX := Num.hd (show (∀ X, Below W6.heap.size W6 X → (Below W6.heap.size W6 X ∧ X.cell? ⟨w.heap.size, 0, none⟩ = some (.int .i64 u.next) ∧ X.cell? ⟨w.heap.size, 1, none⟩ = some (.int .i64 u.tick) ∧ X.cell? ⟨w.heap.size, 2, none⟩ = some t1 ∧ X.cell? ⟨w.heap.size, 3, none⟩ = some t2 ∧ X.cell? ⟨w.heap.size, 4, none⟩ = some t3 ∧ X.cell? ⟨w.heap.size, 5, none⟩ = some t4 ∧ X.cell? ⟨w.heap.size, 6, none⟩ = some t5 ∧ X.cell? ⟨w.heap.size, 7, none⟩ = some t6 ∧ X.cell? ⟨w.heap.size, 8, none⟩ = some t7 ∧ X.cell? ⟨g3, 0, none⟩ = some (.int .i64 u.next) ∧ X.cell? ⟨g3, 1, none⟩ = some (.int .i64 u.tick) ∧ X.cell? ⟨g3, 2, none⟩ = some (.slice x1 u.progs.length c1) ∧ X.cell? ⟨g3, 3, none⟩ = some (.slice x2 u.procs.length c2) ∧ X.cell? ⟨g3, 4, none⟩ = some (.slice x3 u.opens.length c3) ∧ X.cell? ⟨g3, 5, none⟩ = some (.slice x4 u.pipes.length c4) ∧ X.cell? ⟨g3, 6, none⟩ = some (.slice x5 u.files.length c5) ∧ X.cell? ⟨g3, 7, none⟩ = some (.slice x6 u.ready.length c6) ∧ X.cell? ⟨g3, 8, none⟩ = some (.slice x7 u.out.length c7))) from (fun X hb => ⟨hb, (hb.cell (p := ⟨w.heap.size, 0, none⟩) hlt6).trans (a0 ⟨W6, hbW6⟩), (hb.cell (p := ⟨w.heap.size, 1, none⟩) hlt6).trans (a1 ⟨W6, hbW6⟩), (hb.cell (p := ⟨w.heap.size, 2, none⟩) hlt6).trans (a2 ⟨W6, hbW6⟩), (hb.cell (p := ⟨w.heap.size, 3, none⟩) hlt6).trans (a3 ⟨W6, hbW6⟩), (hb.cell (p := ⟨w.heap.size, 4, none⟩) hlt6).trans (a4 ⟨W6, hbW6⟩), (hb.cell (p := ⟨w.heap.size, 5, none⟩) hlt6).trans (a5 ⟨W6, hbW6⟩), (hb.cell (p := ⟨w.heap.size, 6, none⟩) hlt6).trans (a6 ⟨W6, hbW6⟩), (hb.cell (p := ⟨w.heap.size, 7, none⟩) hlt6).trans (a7 ⟨W6, hbW6⟩), (hb.cell (p := ⟨w.heap.size, 8, none⟩) hlt6).trans (a8 ⟨W6, hbW6⟩), (hb.cell (p := ⟨g3, 0, none⟩) hg6).trans (hC6 0 _ rfl), (hb.cell (p := ⟨g3, 1, none⟩) hg6).trans (hC6 1 _ rfl), (hb.cell (p := ⟨g3, 2, none⟩) hg6).trans (hC6 2 _ rfl), (hb.cell (p := ⟨g3, 3, none⟩) hg6).trans (hC6 3 _ rfl), (hb.cell (p := ⟨g3, 4, none⟩) hg6).trans (hC6 4 _ rfl), (hb.cell (p := ⟨g3, 5, none⟩) hg6).trans (hC6 5 _ rfl), (hb.cell (p := ⟨g3, 6, none⟩) hg6).trans (hC6 6 _ rfl), (hb.cell (p := ⟨g3, 7, none⟩) hg6).trans (hC6 7 _ rfl), (hb.cell (p := ⟨g3, 8, none⟩) hg6).trans (hC6 8 _ rfl)⟩))
    have HU6 := Num.hd hu6
    have HB6 := Num.hd (HBB.out.trans (hbW6.mono HBB.out.size))
    have HT6 := Num.hd (fun X (hb : Below W6.heap.size W6 X) => HT.out ⟨X, hbW6.trans (hb.mono hbW6.size)⟩)
    have HE6 := Num.hd (fun s2 b2 (X : World) (hb : Below W6.heap.size W6 X) (h2 : UnC.UnO X s2 u b2) => HEQ.out _ s2 b3 b2 X (HU6.out.below hb) h2)
    rw [hg3]
    simp only
    clear hC hC6 hu3 hu4 hu6 hb4 hs4 hb6 HT HEQ HSZ HSP HIM
    go_wp2_with fail
    go_region_held3 (fun X => Below W6.heap.size W6 X ∧ X.cell? ⟨w.heap.size, 0, none⟩ = some (.int .i64 u.next) ∧ X.cell? ⟨w.heap.size, 1, none⟩ = some (.int .i64 u.tick) ∧ X.cell? ⟨w.heap.size, 2, none⟩ = some t1 ∧ X.cell? ⟨w.heap.size, 3, none⟩ = some t2 ∧ X.cell? ⟨w.heap.size, 4, none⟩ = some t3 ∧ X.cell? ⟨w.heap.size, 5, none⟩ = some t4 ∧ X.cell? ⟨w.heap.size, 6, none⟩ = some t5 ∧ X.cell? ⟨w.heap.size, 7, none⟩ = some t6 ∧ X.cell? ⟨w.heap.size, 8, none⟩ = some t7 ∧ X.cell? ⟨g3, 0, none⟩ = some (.int .i64 u.next) ∧ X.cell? ⟨g3, 1, none⟩ = some (.int .i64 u.tick) ∧ X.cell? ⟨g3, 2, none⟩ = some (.slice x1 u.progs.length c1) ∧ X.cell? ⟨g3, 3, none⟩ = some (.slice x2 u.procs.length c2) ∧ X.cell? ⟨g3, 4, none⟩ = some (.slice x3 u.opens.length c3) ∧ X.cell? ⟨g3, 5, none⟩ = some (.slice x4 u.pipes.length c4) ∧ X.cell? ⟨g3, 6, none⟩ = some (.slice x5 u.files.length c5) ∧ X.cell? ⟨g3, 7, none⟩ = some (.slice x6 u.ready.length c6) ∧ X.cell? ⟨g3, 8, none⟩ = some (.slice x7 u.out.length c7)) ((refine HSX.out _ ?_; repeat' first | with_reducible assumption | with_reducible exact Below.refl _ _ | with_reducible apply Below.drew))
      (first
        | (go_at_call 9; refine (HT6.out _ (‹Below W6.heap.size W6 _ ∧ _›.1)).mono ?_; rintro e w7 ⟨s7, b7, rfl, hu7, _, _, hb7⟩; have hb7' := (‹Below W6.heap.size W6 _ ∧ _›.1).trans (hb7.mono (‹Below W6.heap.size W6 _ ∧ _›.1).size); clear hb7)
        | (go_at_call 11; refine (HE6.out s7 b7 _ hb7' hu7).mono ?_; rintro e w8 ⟨rfl, hb8⟩; have hb8' := hb7'.trans (hb8.mono hb7'.size); clear hb8))
    all_goals
      go_wp2
      go_ret
      exact ⟨rfl, HB6.out.trans (hb8'.mono HB6.out.size)⟩
  · have hszv : SzU.szR 1048576 (SzV.wUn u) = -1 := SzU.szR_no (by omega)
    rw [hszv] at HSZ
    clear hbig hszv
    go_enter Tryz.func6, Tryz.ntmps6
    go_wp2_with (go_at_call 7; fail)
    rw [hW.out, ← hx0.out]
    refine (HSZ.out _).mono ?_
    rintro e w0 ⟨rfl, y0, rfl⟩
    go_wp2
    go_ret
    exact ⟨rfl, Bel.Bel.fin HBB.out _⟩

set_option maxRecDepth 100000 in
theorem lifted (os : Os) (started : os.Started) (H : Type) (enc : TypeId × Value → H) :
    ReturnsInHanded {} Tryz.checked os 6 .any (Rows.fnExactHeldSpec.pre6 enc Tryz.prog Tryz.f6 Rows.fnExactHeldRow.domain false) (Rows.fnExactHeldSpec.post enc Tryz.prog Tryz.f6 false true false false) := by
  refine returnsInHanded_of_change (C := Tryz.checked) own started (by kernel_rfl) Tryz.func6
    (ChangeSpec.witness6 (enc := enc) (C := Tryz.checked) false ⟨#[], #[.agg #[.int .i64 0, .int .i64 0, .slice none 0 0, .slice none 0 0, .slice none 0 0, .slice none 0 0, .slice none 0 0, .slice none 0 0, .slice none 0 0]], []⟩ 8 (by kernel_rfl) (by kernel_rfl) (by kernel_rfl) (by kernel_rfl)) ?_
  intro W base args ds gs before hval0 hW hcnd _
  have hval : ∀ (j : Nat) t v, Tryz.f6.params[j]? = some t → args[j]? = some v → Value.okWide Tryz.prog W .any base t v := hval0
  have hW' := hW
  obtain ⟨p, q, hA0, hV, rfl, hfz, hnd⟩ := hW
  have hA : DataW.TrodAll enc Tryz.prog W 0 (fun _ => true) true Tryz.f6.params.toList args.toList ds p := hA0
  rw [Tryz.params6] at hA hval
  obtain ⟨v0, vs0, d0, ds0, p0, q0, hargs, rfl, rfl, h0, r0⟩ := trodAll_cons hA
  obtain ⟨rfl, rfl, rfl⟩ := trodAll_nil r0
  obtain rfl : args = #[v0] := by cases args; simp_all
  obtain ⟨rfl, rfl⟩ := trodVars_none hV
  have lt0 : ∀ x ∈ p0, x.block < W.heap.size := by obtain ⟨m, hm⟩ := h0; exact DataW.trod_lt m _ _ _ hm
  have o0 := ArgW.open_unix (hval 0 29 v0 rfl rfl) h0
  clear hA0 hval0
  refine (walk v0 W o0).mono fun e W' ⟨he, bel⟩ => ?_
  subst he
  exact ⟨_, rfl, _, _, _, [], _, [], hW', trodAll_mk1 (shut_bool Tryz.underlying4 _), (trodAll_cons_mk (Below.trod laidOut (by kernel_rfl) (of_decide_eq_true (by kernel_rfl)) h0 bel lt0) trodAll_mk0), rfl, bel.frame _, fun h => by cases h⟩

theorem over : Rows.fnExactHeldRow.holds Tryz.pinned (OpenSpec.ofChange Rows.fnExactHeldSpec) :=
  OpenClaim.holds_of_wide 6 Tryz.f6 rfl rfl rfl rfl rfl rfl rfl ⟨rfl, rfl, rfl, rfl, rfl⟩ rfl rfl rfl rfl rfl (by kernel_rfl) Tryz.func6 (by kernel_rfl)
    (of_decide_eq_true (by kernel_rfl)) (by unfold Func.isWrapper; first | (rw [if_pos (by decide +kernel)]; kernel_rfl) | (rw [if_neg (by decide +kernel)]; exact ⟨rfl, rfl⟩))
    (fun os started H enc _ => lifted os started H enc)

theorem proved : Rows.FnExactHeldSaid := over
end Go.Proofs.YtighnfeifkgajaaGreat.fnExactHeld
namespace Go.Proofs.YtighnfeifkgajaaGreat
theorem fnExactHeld_holds : Rows.FnExactHeldSaid := fnExactHeld.proved
#print axioms fnExactHeld_holds
end Go.Proofs.YtighnfeifkgajaaGreat
