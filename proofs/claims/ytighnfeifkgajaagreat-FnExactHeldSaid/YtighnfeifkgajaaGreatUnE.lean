/- The law's comparison of all there is. Condition: none. -/
import Derived.Test.YtighnfeifkgajaaGreatUnC
import Derived.Deep.RegionWith
import Derived.BigRegion
namespace Go.Proofs.YtighnfeifkgajaaGreat.UnE
open Go.RowKit Go.Deep Num InsC InsO ProgC IntC RowC PrgL UnC
set_option maxRecDepth 100000
set_option linter.unusedVariables false
set_option linter.unusedSimpArgs false

/-- Two boxes, one behind the other. -/
structure Two (W : World) (g : Nat) (cs cs' : List Value) : Prop where
  a : ∀ j u, cs[j]? = some u → W.cell? ⟨g, j, none⟩ = some u
  b : ∀ j u, cs'[j]? = some u → W.cell? ⟨g + 1, j, none⟩ = some u
  lt : g + 1 < W.heap.size
theorem Two.new (w : World) (cs cs' : List Value) (t t' : TypeId) : Two ((w.alloc (.cells cs.toArray t)).alloc (.cells cs'.toArray t')) w.heap.size cs cs' := by
  refine ⟨fun j u hu => ?_, fun j u hu => cell_box _ cs' t' _ (by simp) j u hu, by simp⟩
  rw [World.cell?_alloc_lt _ _ _ (by simp)]
  exact cell_box w cs t _ rfl j u hu
theorem Two.below {W W' : World} {g : Nat} {cs cs' : List Value} (h : Two W g cs cs') (hb : Below W.heap.size W W') : Two W' g cs cs' :=
  ⟨cell_of_below h.a (by have := h.lt; omega) hb, cell_of_below h.b h.lt hb, Nat.lt_of_lt_of_le h.lt hb.size⟩

set_option maxHeartbeats 1000000 in
theorem eqOpen_any (o : Ope) (w : World) : Calls Tryz.prog 110 #[.agg o.cells.toArray, .agg o.cells.toArray] w fun e w' => e = .returned (.bool true) ∧ Below w.heap.size w w' := by
  unfold Ope.cells ic
  go_enter Tryz.func110, Tryz.ntmps110
  go_wp2
  go_ret
  exact ⟨rfl, ((Below.refl _ w).alloc (Nat.le_refl _) _).alloc (by simp) _⟩

set_option maxHeartbeats 1000000 in
theorem eqProc_any (p : Pr) (cs cs' : List Value) (b b' : List Nat) (w : World) (hs : p.Sm) (h : PPr w cs p b) (h' : PPr w cs' p b') :
    Calls Tryz.prog 109 #[.agg cs.toArray, .agg cs'.toArray] w fun e w' => e = .returned (.bool true) ∧ Below w.heap.size w w' := by
  obtain ⟨v1, v2, v3, b1, b2, b3, rfl, h1, h2, h3, rfl⟩ := h
  obtain ⟨u1, u2, u3, c1, c2, c3, rfl, k1, k2, k3, rfl⟩ := h'
  have hb0 : Below w.heap.size w ((w.alloc (.cells (p.cells v1 v2 v3).toArray 55)).alloc (.cells (p.cells u1 u2 u3).toArray 55)) := ((Below.refl _ w).alloc (Nat.le_refl _) _).alloc (by simp) _
  have ht := Two.new w (p.cells v1 v2 v3) (p.cells u1 u2 u3) 55 55
  obtain ⟨x1, y1, rfl⟩ := h1.slice
  obtain ⟨x2, y2, rfl⟩ := h2.slice
  obtain ⟨x3, y3, rfl⟩ := h3.slice
  obtain ⟨x4, y4, rfl⟩ := k1.slice
  obtain ⟨x5, y5, rfl⟩ := k2.slice
  obtain ⟨x6, y6, rfl⟩ := k3.slice
  replace h1 := hd h1.ints
  replace h2 := hd h2.ints
  replace h3 := hd h3.ints
  replace k1 := hd k1.ints
  replace k2 := hd k2.ints
  replace k3 := hd k3.ints
  obtain ⟨s1, s2, s3⟩ := hs
  obtain ⟨W, hW⟩ : ∃ W, ((w.alloc (.cells (p.cells (.slice x1 p.regs.length y1) (.slice x2 p.mem.length y2) (.slice x3 p.fds.length y3)).toArray 55)).alloc (.cells (p.cells (.slice x4 p.regs.length y4) (.slice x5 p.mem.length y5) (.slice x6 p.fds.length y6)).toArray 55)) = W := ⟨_, rfl⟩
  rw [hW] at hb0 ht
  replace hW := hd hW
  unfold Pr.cells ic at *
  go_enter Tryz.func109, Tryz.ntmps109
  go_wp2_with (go_at_call 140; fail)
  rw [hW.out]
  refine (CpuC.eqCpu_any p.pc _ _ p.regs W (h1.out.below hb0) (k1.out.below hb0) s1).mono ?_
  rintro e W1 ⟨rfl, hb1⟩
  replace ht := ht.below hb1
  replace hb0 := hb0.trans (hb1.mono hb0.size)
  have a6 := ht.a 6 _ rfl
  have e6 := ht.b 6 _ rfl
  clear hb1 hW
  go_wp2_with (go_at_call 54; fail)
  refine (IntC.eq_any _ _ p.mem W1 (h2.out.below hb0) (k2.out.below hb0) s2).mono ?_
  rintro e W2 ⟨rfl, hb1⟩
  replace ht := ht.below hb1
  replace hb0 := hb0.trans (hb1.mono hb0.size)
  clear hb1 a6 e6
  have a7 := ht.a 7 _ rfl
  have e7 := ht.b 7 _ rfl
  go_wp2_with (go_at_call 54; fail)
  refine (IntC.eq_any _ _ p.fds W2 (h3.out.below hb0) (k3.out.below hb0) s3).mono ?_
  rintro e W3 ⟨rfl, hb1⟩
  replace ht := ht.below hb1
  replace hb0 := hb0.trans (hb1.mono hb0.size)
  clear hb1 a7 e7
  have a8 := ht.a 8 _ rfl
  have e8 := ht.b 8 _ rfl
  have a9 := ht.a 9 _ rfl
  have e9 := ht.b 9 _ rfl
  go_wp2
  go_ret
  exact ⟨rfl, hb0⟩

set_option maxHeartbeats 1000000 in
theorem eqPipe_any (p : Pip) (cs cs' : List Value) (b b' : List Nat) (w : World) (hs : p.data.length ≤ 1048576) (h : PPi w cs p b) (h' : PPi w cs' p b') :
    Calls Tryz.prog 111 #[.agg cs.toArray, .agg cs'.toArray] w fun e w' => e = .returned (.bool true) ∧ Below w.heap.size w w' := by
  obtain ⟨v1, rfl, h1⟩ := h
  obtain ⟨u1, rfl, k1⟩ := h'
  have hb0 : Below w.heap.size w ((w.alloc (.cells (p.cells v1).toArray 71)).alloc (.cells (p.cells u1).toArray 71)) := ((Below.refl _ w).alloc (Nat.le_refl _) _).alloc (by simp) _
  obtain ⟨x1, y1, rfl⟩ := h1.slice
  obtain ⟨x4, y4, rfl⟩ := k1.slice
  have HE := hd (IntC.eq_any _ _ p.data _ (h1.ints.below hb0) (k1.ints.below hb0) hs)
  unfold Pip.cells ic at *
  clear h1 k1
  go_enter Tryz.func111, Tryz.ntmps111
  go_wp2_with (go_at_call 54; refine HE.out.mono ?_; rintro e W1 ⟨rfl, hb1⟩)
  go_ret
  exact ⟨rfl, hb0.trans (hb1.mono hb0.size)⟩

set_option maxHeartbeats 1000000 in
theorem eqFile_any (p : Pip) (cs cs' : List Value) (b b' : List Nat) (w : World) (hs : p.data.length ≤ 1048576) (h : PPi w cs p b) (h' : PPi w cs' p b') :
    Calls Tryz.prog 112 #[.agg cs.toArray, .agg cs'.toArray] w fun e w' => e = .returned (.bool true) ∧ Below w.heap.size w w' := by
  obtain ⟨v1, rfl, h1⟩ := h
  obtain ⟨u1, rfl, k1⟩ := h'
  have hb0 : Below w.heap.size w ((w.alloc (.cells (p.cells v1).toArray 76)).alloc (.cells (p.cells u1).toArray 76)) := ((Below.refl _ w).alloc (Nat.le_refl _) _).alloc (by simp) _
  obtain ⟨x1, y1, rfl⟩ := h1.slice
  obtain ⟨x4, y4, rfl⟩ := k1.slice
  have HE := hd (IntC.eq_any _ _ p.data _ (h1.ints.below hb0) (k1.ints.below hb0) hs)
  unfold Pip.cells ic at *
  clear h1 k1
  go_enter Tryz.func112, Tryz.ntmps112
  go_wp2_with (go_at_call 54; refine HE.out.mono ?_; rintro e W1 ⟨rfl, hb1⟩)
  go_ret
  exact ⟨rfl, hb0.trans (hb1.mono hb0.size)⟩

theorem eqOpenS_nil (a a' : Option Addr) (c c' : Nat) (w : World) :
    Calls Tryz.prog 51 #[.slice a 0 c, .slice a' 0 c'] w fun e w' => e = .returned (.bool true) ∧ Below w.heap.size w w' := by
  go_enter Tryz.func51, Tryz.ntmps51
  go_wp2_with fail
  go_loop [5] (fun i => i = .int .i64 0) (fun _ => 0)
  case atStart => rfl
  case round =>
    obtain rfl := hrel
    go_wp2
    go_ret
    exact ⟨rfl, Below.refl _ _⟩
set_option maxHeartbeats 2000000 in
theorem eqOpenS_some (g c g' c' : Nat) (L : List Ope) (bs bs' : List Nat) (w : World) (hLs : L.length ≤ 1048576) (hs : ∀ (i : Nat) (p : Ope), L[i]? = some p → True) (hg : g < w.heap.size) (hg' : g' < w.heap.size)
    (h : Opens w (.slice (some ⟨g, 0, none⟩) L.length c) L bs) (h' : Opens w (.slice (some ⟨g', 0, none⟩) L.length c') L bs') :
    Calls Tryz.prog 51 #[.slice (some ⟨g, 0, none⟩) L.length c, .slice (some ⟨g', 0, none⟩) L.length c'] w fun e w' => e = .returned (.bool true) ∧ Below w.heap.size w w' := by
  have HA := hd h
  have HB := hd h'
  have HS := hd hs
  clear h h' hs
  go_enter Tryz.func51, Tryz.ntmps51
  go_wp2_with fail
  go_loopw [5] (fun i wr => ∃ k : Nat, k ≤ L.length ∧ i = .int .i64 k ∧ Below w.heap.size w wr) (fun i _ => L.length - (intOf i).toNat)
  case atStart => exact ⟨0, Nat.zero_le _, rfl, Below.refl _ _⟩
  case round =>
    obtain ⟨k, hk, rfl, hbel⟩ := hrel
    by_cases hlt : k < L.length
    · obtain ⟨p, cs, b, hl, hp1, ho1⟩ := (HA.out.below good_op hbel).out hlt
      obtain ⟨p2, cs2, b2, hl2, hp2, ho2⟩ := (HB.out.below good_op hbel).out hlt
      rw [hl] at hl2
      simp only [Option.some.injEq] at hl2
      subst hl2
      have hsm := HS.out k p hl
      have HM := hd (fun W (hb : Below wr.heap.size wr W) => eqOpen_any p W)
      obtain ⟨rfl, rfl⟩ := hp1
      obtain ⟨rfl, rfl⟩ := hp2
      have c0 := ho1.cell 0 _ rfl
      have e0 := ho2.cell 0 _ rfl
      have c1 := ho1.cell 1 _ rfl
      have e1 := ho2.cell 1 _ rfl
      have c2 := ho1.cell 2 _ rfl
      have e2 := ho2.cell 2 _ rfl
      have c3 := ho1.cell 3 _ rfl
      have e3 := ho2.cell 3 _ rfl
      have c4 := ho1.cell 4 _ rfl
      have e4 := ho2.cell 4 _ rfl
      rw [Nat.add_zero] at c0 e0
      have hk0 : (0 : Int) ≤ k := by omega
      have hk1 : (k : Int) < L.length := by omega
      unfold Ope.cells ic at *
      clear ho1 ho2 hl hsm
      go_wp2_with fail
      go_region_with (go_at_call 110; refine (HM.out _ (Below.refl _ _).drew).mono ?_; rintro e w2 ⟨rfl, hb2⟩)
      all_goals
        go_wp2
        go_roundw
        case rel => exact ⟨k + 1, by omega, by go_num, hbel.drew.trans (hb2.mono (by have := hbel.size; simp; omega))⟩
        case measure => simp [intOf]; omega
    · go_wp2
      go_ret
      exact ⟨rfl, hbel⟩
theorem eqOpenS_any (v v' : Value) (L : List Ope) (bs bs' : List Nat) (w : World) (hLs : L.length ≤ 1048576) (hs : ∀ (i : Nat) (p : Ope), L[i]? = some p → True) (h : Opens w v L bs) (h' : Opens w v' L bs') :
    Calls Tryz.prog 51 #[v, v'] w fun e w' => e = .returned (.bool true) ∧ Below w.heap.size w w' := by
  rcases h.cases with ⟨rfl, rfl, rfl⟩ | ⟨g, c, rfl, hg, _⟩
  · obtain ⟨a, c, rfl⟩ := h'.slice
    exact eqOpenS_nil _ _ _ _ w
  · rcases h'.cases with ⟨rfl, rfl, rfl⟩ | ⟨g', c', rfl, hg', _⟩
    · exact eqOpenS_nil _ _ _ _ w
    · exact eqOpenS_some g c g' c' L bs bs' w hLs hs hg hg' h h'

theorem eqPipeS_nil (a a' : Option Addr) (c c' : Nat) (w : World) :
    Calls Tryz.prog 52 #[.slice a 0 c, .slice a' 0 c'] w fun e w' => e = .returned (.bool true) ∧ Below w.heap.size w w' := by
  go_enter Tryz.func52, Tryz.ntmps52
  go_wp2_with fail
  go_loop [5] (fun i => i = .int .i64 0) (fun _ => 0)
  case atStart => rfl
  case round =>
    obtain rfl := hrel
    go_wp2
    go_ret
    exact ⟨rfl, Below.refl _ _⟩
set_option maxHeartbeats 2000000 in
theorem eqPipeS_some (g c g' c' : Nat) (L : List Pip) (bs bs' : List Nat) (w : World) (hLs : L.length ≤ 1048576) (hs : ∀ (i : Nat) (p : Pip), L[i]? = some p → p.data.length ≤ 1048576) (hg : g < w.heap.size) (hg' : g' < w.heap.size)
    (h : Pipes w (.slice (some ⟨g, 0, none⟩) L.length c) L bs) (h' : Pipes w (.slice (some ⟨g', 0, none⟩) L.length c') L bs') :
    Calls Tryz.prog 52 #[.slice (some ⟨g, 0, none⟩) L.length c, .slice (some ⟨g', 0, none⟩) L.length c'] w fun e w' => e = .returned (.bool true) ∧ Below w.heap.size w w' := by
  have HA := hd h
  have HB := hd h'
  have HS := hd hs
  clear h h' hs
  go_enter Tryz.func52, Tryz.ntmps52
  go_wp2_with fail
  go_loopw [5] (fun i wr => ∃ k : Nat, k ≤ L.length ∧ i = .int .i64 k ∧ Below w.heap.size w wr) (fun i _ => L.length - (intOf i).toNat)
  case atStart => exact ⟨0, Nat.zero_le _, rfl, Below.refl _ _⟩
  case round =>
    obtain ⟨k, hk, rfl, hbel⟩ := hrel
    by_cases hlt : k < L.length
    · obtain ⟨p, cs, b, hl, hp1, ho1⟩ := (HA.out.below good_pi hbel).out hlt
      obtain ⟨p2, cs2, b2, hl2, hp2, ho2⟩ := (HB.out.below good_pi hbel).out hlt
      rw [hl] at hl2
      simp only [Option.some.injEq] at hl2
      subst hl2
      have hsm := HS.out k p hl
      have HM := hd (fun W (hb : Below wr.heap.size wr W) => eqPipe_any p cs cs2 b b2 W hsm (good_pi.keep hp1 (Keep.of_below [] hb) (by simp)) (good_pi.keep hp2 (Keep.of_below [] hb) (by simp)))
      obtain ⟨v1, rfl, h1⟩ := hp1
      obtain ⟨u1, rfl, k1⟩ := hp2
      obtain ⟨x1, y1, rfl⟩ := h1.slice
      obtain ⟨x4, y4, rfl⟩ := k1.slice
      clear h1 k1
      have c0 := ho1.cell 0 _ rfl
      have e0 := ho2.cell 0 _ rfl
      have c1 := ho1.cell 1 _ rfl
      have e1 := ho2.cell 1 _ rfl
      rw [Nat.add_zero] at c0 e0
      have hk0 : (0 : Int) ≤ k := by omega
      have hk1 : (k : Int) < L.length := by omega
      unfold Pip.cells ic at *
      clear ho1 ho2 hl hsm
      go_wp2_with fail
      go_region_with (go_at_call 111; refine (HM.out _ (Below.refl _ _).drew).mono ?_; rintro e w2 ⟨rfl, hb2⟩)
      all_goals
        go_wp2
        go_roundw
        case rel => exact ⟨k + 1, by omega, by go_num, hbel.drew.trans (hb2.mono (by have := hbel.size; simp; omega))⟩
        case measure => simp [intOf]; omega
    · go_wp2
      go_ret
      exact ⟨rfl, hbel⟩
theorem eqPipeS_any (v v' : Value) (L : List Pip) (bs bs' : List Nat) (w : World) (hLs : L.length ≤ 1048576) (hs : ∀ (i : Nat) (p : Pip), L[i]? = some p → p.data.length ≤ 1048576) (h : Pipes w v L bs) (h' : Pipes w v' L bs') :
    Calls Tryz.prog 52 #[v, v'] w fun e w' => e = .returned (.bool true) ∧ Below w.heap.size w w' := by
  rcases h.cases with ⟨rfl, rfl, rfl⟩ | ⟨g, c, rfl, hg, _⟩
  · obtain ⟨a, c, rfl⟩ := h'.slice
    exact eqPipeS_nil _ _ _ _ w
  · rcases h'.cases with ⟨rfl, rfl, rfl⟩ | ⟨g', c', rfl, hg', _⟩
    · exact eqPipeS_nil _ _ _ _ w
    · exact eqPipeS_some g c g' c' L bs bs' w hLs hs hg hg' h h'

theorem eqFileS_nil (a a' : Option Addr) (c c' : Nat) (w : World) :
    Calls Tryz.prog 53 #[.slice a 0 c, .slice a' 0 c'] w fun e w' => e = .returned (.bool true) ∧ Below w.heap.size w w' := by
  go_enter Tryz.func53, Tryz.ntmps53
  go_wp2_with fail
  go_loop [5] (fun i => i = .int .i64 0) (fun _ => 0)
  case atStart => rfl
  case round =>
    obtain rfl := hrel
    go_wp2
    go_ret
    exact ⟨rfl, Below.refl _ _⟩
set_option maxHeartbeats 2000000 in
theorem eqFileS_some (g c g' c' : Nat) (L : List Pip) (bs bs' : List Nat) (w : World) (hLs : L.length ≤ 1048576) (hs : ∀ (i : Nat) (p : Pip), L[i]? = some p → p.data.length ≤ 1048576) (hg : g < w.heap.size) (hg' : g' < w.heap.size)
    (h : Files w (.slice (some ⟨g, 0, none⟩) L.length c) L bs) (h' : Files w (.slice (some ⟨g', 0, none⟩) L.length c') L bs') :
    Calls Tryz.prog 53 #[.slice (some ⟨g, 0, none⟩) L.length c, .slice (some ⟨g', 0, none⟩) L.length c'] w fun e w' => e = .returned (.bool true) ∧ Below w.heap.size w w' := by
  have HA := hd h
  have HB := hd h'
  have HS := hd hs
  clear h h' hs
  go_enter Tryz.func53, Tryz.ntmps53
  go_wp2_with fail
  go_loopw [5] (fun i wr => ∃ k : Nat, k ≤ L.length ∧ i = .int .i64 k ∧ Below w.heap.size w wr) (fun i _ => L.length - (intOf i).toNat)
  case atStart => exact ⟨0, Nat.zero_le _, rfl, Below.refl _ _⟩
  case round =>
    obtain ⟨k, hk, rfl, hbel⟩ := hrel
    by_cases hlt : k < L.length
    · obtain ⟨p, cs, b, hl, hp1, ho1⟩ := (HA.out.below good_pi hbel).out hlt
      obtain ⟨p2, cs2, b2, hl2, hp2, ho2⟩ := (HB.out.below good_pi hbel).out hlt
      rw [hl] at hl2
      simp only [Option.some.injEq] at hl2
      subst hl2
      have hsm := HS.out k p hl
      have HM := hd (fun W (hb : Below wr.heap.size wr W) => eqFile_any p cs cs2 b b2 W hsm (good_pi.keep hp1 (Keep.of_below [] hb) (by simp)) (good_pi.keep hp2 (Keep.of_below [] hb) (by simp)))
      obtain ⟨v1, rfl, h1⟩ := hp1
      obtain ⟨u1, rfl, k1⟩ := hp2
      obtain ⟨x1, y1, rfl⟩ := h1.slice
      obtain ⟨x4, y4, rfl⟩ := k1.slice
      clear h1 k1
      have c0 := ho1.cell 0 _ rfl
      have e0 := ho2.cell 0 _ rfl
      have c1 := ho1.cell 1 _ rfl
      have e1 := ho2.cell 1 _ rfl
      rw [Nat.add_zero] at c0 e0
      have hk0 : (0 : Int) ≤ k := by omega
      have hk1 : (k : Int) < L.length := by omega
      unfold Pip.cells ic at *
      clear ho1 ho2 hl hsm
      go_wp2_with fail
      go_region_with (go_at_call 112; refine (HM.out _ (Below.refl _ _).drew).mono ?_; rintro e w2 ⟨rfl, hb2⟩)
      all_goals
        go_wp2
        go_roundw
        case rel => exact ⟨k + 1, by omega, by go_num, hbel.drew.trans (hb2.mono (by have := hbel.size; simp; omega))⟩
        case measure => simp [intOf]; omega
    · go_wp2
      go_ret
      exact ⟨rfl, hbel⟩
theorem eqFileS_any (v v' : Value) (L : List Pip) (bs bs' : List Nat) (w : World) (hLs : L.length ≤ 1048576) (hs : ∀ (i : Nat) (p : Pip), L[i]? = some p → p.data.length ≤ 1048576) (h : Files w v L bs) (h' : Files w v' L bs') :
    Calls Tryz.prog 53 #[v, v'] w fun e w' => e = .returned (.bool true) ∧ Below w.heap.size w w' := by
  rcases h.cases with ⟨rfl, rfl, rfl⟩ | ⟨g, c, rfl, hg, _⟩
  · obtain ⟨a, c, rfl⟩ := h'.slice
    exact eqFileS_nil _ _ _ _ w
  · rcases h'.cases with ⟨rfl, rfl, rfl⟩ | ⟨g', c', rfl, hg', _⟩
    · exact eqFileS_nil _ _ _ _ w
    · exact eqFileS_some g c g' c' L bs bs' w hLs hs hg hg' h h'

theorem eqProcS_nil (a a' : Option Addr) (c c' : Nat) (w : World) :
    Calls Tryz.prog 50 #[.slice a 0 c, .slice a' 0 c'] w fun e w' => e = .returned (.bool true) ∧ Below w.heap.size w w' := by
  go_enter Tryz.func50, Tryz.ntmps50
  go_wp2_with fail
  go_loop [5] (fun i => i = .int .i64 0) (fun _ => 0)
  case atStart => rfl
  case round =>
    obtain rfl := hrel
    go_wp2
    go_ret
    exact ⟨rfl, Below.refl _ _⟩
set_option maxHeartbeats 2000000 in
theorem eqProcS_some (g c g' c' : Nat) (L : List Pr) (bs bs' : List Nat) (w : World) (hLs : L.length ≤ 1048576) (hs : ∀ (i : Nat) (p : Pr), L[i]? = some p → p.Sm) (hg : g < w.heap.size) (hg' : g' < w.heap.size)
    (h : Procs w (.slice (some ⟨g, 0, none⟩) L.length c) L bs) (h' : Procs w (.slice (some ⟨g', 0, none⟩) L.length c') L bs') :
    Calls Tryz.prog 50 #[.slice (some ⟨g, 0, none⟩) L.length c, .slice (some ⟨g', 0, none⟩) L.length c'] w fun e w' => e = .returned (.bool true) ∧ Below w.heap.size w w' := by
  have HA := hd h
  have HB := hd h'
  have HS := hd hs
  clear h h' hs
  go_enter Tryz.func50, Tryz.ntmps50
  go_wp2_with fail
  go_loopw [5] (fun i wr => ∃ k : Nat, k ≤ L.length ∧ i = .int .i64 k ∧ Below w.heap.size w wr) (fun i _ => L.length - (intOf i).toNat)
  case atStart => exact ⟨0, Nat.zero_le _, rfl, Below.refl _ _⟩
  case round =>
    obtain ⟨k, hk, rfl, hbel⟩ := hrel
    by_cases hlt : k < L.length
    · obtain ⟨p, cs, b, hl, hp1, ho1⟩ := (HA.out.below good_pr hbel).out hlt
      obtain ⟨p2, cs2, b2, hl2, hp2, ho2⟩ := (HB.out.below good_pr hbel).out hlt
      rw [hl] at hl2
      simp only [Option.some.injEq] at hl2
      subst hl2
      have hsm := HS.out k p hl
      have HM := hd (fun W (hb : Below wr.heap.size wr W) => eqProc_any p cs cs2 b b2 W hsm (good_pr.keep hp1 (Keep.of_below [] hb) (by simp)) (good_pr.keep hp2 (Keep.of_below [] hb) (by simp)))
      obtain ⟨v1, v2, v3, b1, b2, b3, rfl, h1, h2, h3, rfl⟩ := hp1
      obtain ⟨u1, u2, u3, c1, c2, c3, rfl, k1, k2, k3, rfl⟩ := hp2
      obtain ⟨x1, y1, rfl⟩ := h1.slice
      obtain ⟨x2, y2, rfl⟩ := h2.slice
      obtain ⟨x3, y3, rfl⟩ := h3.slice
      obtain ⟨x4, y4, rfl⟩ := k1.slice
      obtain ⟨x5, y5, rfl⟩ := k2.slice
      obtain ⟨x6, y6, rfl⟩ := k3.slice
      clear h1 h2 h3 k1 k2 k3
      have c0 := ho1.cell 0 _ rfl
      have e0 := ho2.cell 0 _ rfl
      have c1 := ho1.cell 1 _ rfl
      have e1 := ho2.cell 1 _ rfl
      have c2 := ho1.cell 2 _ rfl
      have e2 := ho2.cell 2 _ rfl
      have c3 := ho1.cell 3 _ rfl
      have e3 := ho2.cell 3 _ rfl
      have c4 := ho1.cell 4 _ rfl
      have e4 := ho2.cell 4 _ rfl
      have c5 := ho1.cell 5 _ rfl
      have e5 := ho2.cell 5 _ rfl
      have c6 := ho1.cell 6 _ rfl
      have e6 := ho2.cell 6 _ rfl
      have c7 := ho1.cell 7 _ rfl
      have e7 := ho2.cell 7 _ rfl
      have c8 := ho1.cell 8 _ rfl
      have e8 := ho2.cell 8 _ rfl
      have c9 := ho1.cell 9 _ rfl
      have e9 := ho2.cell 9 _ rfl
      rw [Nat.add_zero] at c0 e0
      have hk0 : (0 : Int) ≤ k := by omega
      have hk1 : (k : Int) < L.length := by omega
      unfold Pr.cells ic at *
      clear ho1 ho2 hl hsm
      go_wp2_with fail
      go_region_with (go_at_call 109; refine (HM.out _ (Below.refl _ _).drew).mono ?_; rintro e w2 ⟨rfl, hb2⟩)
      all_goals
        go_wp2
        go_roundw
        case rel => exact ⟨k + 1, by omega, by go_num, hbel.drew.trans (hb2.mono (by have := hbel.size; simp; omega))⟩
        case measure => simp [intOf]; omega
    · go_wp2
      go_ret
      exact ⟨rfl, hbel⟩
theorem eqProcS_any (v v' : Value) (L : List Pr) (bs bs' : List Nat) (w : World) (hLs : L.length ≤ 1048576) (hs : ∀ (i : Nat) (p : Pr), L[i]? = some p → p.Sm) (h : Procs w v L bs) (h' : Procs w v' L bs') :
    Calls Tryz.prog 50 #[v, v'] w fun e w' => e = .returned (.bool true) ∧ Below w.heap.size w w' := by
  rcases h.cases with ⟨rfl, rfl, rfl⟩ | ⟨g, c, rfl, hg, _⟩
  · obtain ⟨a, c, rfl⟩ := h'.slice
    exact eqProcS_nil _ _ _ _ w
  · rcases h'.cases with ⟨rfl, rfl, rfl⟩ | ⟨g', c', rfl, hg', _⟩
    · exact eqProcS_nil _ _ _ _ w
    · exact eqProcS_some g c g' c' L bs bs' w hLs hs hg hg' h h'

set_option maxHeartbeats 2000000 in
theorem eqUnix_any (u : Un) (s s' : Vs) (b b' : Bl) (w : World) (hs : u.Sm) (h : UnO w s u b) (h' : UnO w s' u b') :
    Calls Tryz.prog 11 #[u.v s, u.v s'] w fun e w' => e = .returned (.bool true) ∧ Below w.heap.size w w' := by
  obtain ⟨p1, p2, p3, p4, p5, p6, p7⟩ := s
  obtain ⟨q1, q2, q3, q4, q5, q6, q7⟩ := s'
  have hb0 : Below w.heap.size w ((w.alloc (.cells (u.cells p1 p2 p3 p4 p5 p6 p7).toArray 38)).alloc (.cells (u.cells q1 q2 q3 q4 q5 q6 q7).toArray 38)) := ((Below.refl _ w).alloc (Nat.le_refl _) _).alloc (by simp) _
  have ht := Two.new w (u.cells p1 p2 p3 p4 p5 p6 p7) (u.cells q1 q2 q3 q4 q5 q6 q7) 38 38
  obtain ⟨W, hW⟩ : ∃ W, ((w.alloc (.cells (u.cells p1 p2 p3 p4 p5 p6 p7).toArray 38)).alloc (.cells (u.cells q1 q2 q3 q4 q5 q6 q7).toArray 38)) = W := ⟨_, rfl⟩
  rw [hW] at hb0 ht
  obtain ⟨x1, y1, z1⟩ := h.progs.slice
  obtain ⟨x1', y1', z1'⟩ := h'.progs.slice
  simp only at z1 z1'
  subst z1 z1'
  obtain ⟨x2, y2, z2⟩ := h.procs.slice
  obtain ⟨x2', y2', z2'⟩ := h'.procs.slice
  simp only at z2 z2'
  subst z2 z2'
  obtain ⟨x3, y3, z3⟩ := h.opens.slice
  obtain ⟨x3', y3', z3'⟩ := h'.opens.slice
  simp only at z3 z3'
  subst z3 z3'
  obtain ⟨x4, y4, z4⟩ := h.pipes.slice
  obtain ⟨x4', y4', z4'⟩ := h'.pipes.slice
  simp only at z4 z4'
  subst z4 z4'
  obtain ⟨x5, y5, z5⟩ := h.files.slice
  obtain ⟨x5', y5', z5'⟩ := h'.files.slice
  simp only at z5 z5'
  subst z5 z5'
  obtain ⟨x6, y6, z6⟩ := h.ready.slice
  obtain ⟨x6', y6', z6'⟩ := h'.ready.slice
  simp only at z6 z6'
  subst z6 z6'
  obtain ⟨x7, y7, z7⟩ := h.out.slice
  obtain ⟨x7', y7', z7'⟩ := h'.out.slice
  simp only at z7 z7'
  subst z7 z7'
  have HA := hd h
  have HB := hd h'
  have HS := hd hs
  replace hW := hd hW
  clear h h' hs
  unfold Un.v
  unfold Un.cells at *
  unfold ic at *
  simp only
  go_enter Tryz.func11, Tryz.ntmps11
  go_wp2_with (go_at_call 49; fail)
  rw [hW.out]
  clear hW
  refine (PrgL.eq_any _ _ u.progs _ _ W (HA.out.below hb0).progs (HB.out.below hb0).progs HS.out.progs).mono ?_
  rintro e W1 ⟨rfl, hb1⟩
  replace ht := ht.below hb1
  replace hb0 := hb0.trans (hb1.mono hb0.size)
  clear hb1
  have a2 := ht.a 3 _ rfl
  have e2 := ht.b 3 _ rfl
  go_wp2_with (go_at_call 50; fail)
  refine (eqProcS_any _ _ u.procs _ _ W1 HS.out.procs HS.out.proc (HA.out.below hb0).procs (HB.out.below hb0).procs).mono ?_
  rintro e W2 ⟨rfl, hb1⟩
  replace ht := ht.below hb1
  replace hb0 := hb0.trans (hb1.mono hb0.size)
  clear hb1
  clear a2 e2
  have a3 := ht.a 4 _ rfl
  have e3 := ht.b 4 _ rfl
  go_wp2_with (go_at_call 51; fail)
  refine (eqOpenS_any _ _ u.opens _ _ W2 HS.out.opens (fun _ _ _ => trivial) (HA.out.below hb0).opens (HB.out.below hb0).opens).mono ?_
  rintro e W3 ⟨rfl, hb1⟩
  replace ht := ht.below hb1
  replace hb0 := hb0.trans (hb1.mono hb0.size)
  clear hb1
  clear a3 e3
  have a4 := ht.a 5 _ rfl
  have e4 := ht.b 5 _ rfl
  go_wp2_with (go_at_call 52; fail)
  refine (eqPipeS_any _ _ u.pipes _ _ W3 HS.out.pipes HS.out.pipe (HA.out.below hb0).pipes (HB.out.below hb0).pipes).mono ?_
  rintro e W4 ⟨rfl, hb1⟩
  replace ht := ht.below hb1
  replace hb0 := hb0.trans (hb1.mono hb0.size)
  clear hb1
  clear a4 e4
  have a5 := ht.a 6 _ rfl
  have e5 := ht.b 6 _ rfl
  go_wp2_with (go_at_call 53; fail)
  refine (eqFileS_any _ _ u.files _ _ W4 HS.out.files HS.out.file (HA.out.below hb0).files (HB.out.below hb0).files).mono ?_
  rintro e W5 ⟨rfl, hb1⟩
  replace ht := ht.below hb1
  replace hb0 := hb0.trans (hb1.mono hb0.size)
  clear hb1
  clear a5 e5
  have a6 := ht.a 7 _ rfl
  have e6 := ht.b 7 _ rfl
  go_wp2_with (go_at_call 54; fail)
  refine (IntC.eq_any _ _ u.ready W5 (HA.out.below hb0).ready.ints (HB.out.below hb0).ready.ints HS.out.ready).mono ?_
  rintro e W6 ⟨rfl, hb1⟩
  replace ht := ht.below hb1
  replace hb0 := hb0.trans (hb1.mono hb0.size)
  clear hb1
  clear a6 e6
  have a7 := ht.a 8 _ rfl
  have e7 := ht.b 8 _ rfl
  go_wp2_with (go_at_call 54; fail)
  refine (IntC.eq_any _ _ u.out W6 (HA.out.below hb0).out.ints (HB.out.below hb0).out.ints HS.out.out).mono ?_
  rintro e W7 ⟨rfl, hb1⟩
  replace ht := ht.below hb1
  replace hb0 := hb0.trans (hb1.mono hb0.size)
  clear hb1
  clear a7 e7
  go_wp2
  go_ret
  exact ⟨rfl, hb0⟩

end Go.Proofs.YtighnfeifkgajaaGreat.UnE
