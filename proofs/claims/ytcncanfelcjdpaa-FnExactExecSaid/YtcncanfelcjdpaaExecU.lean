/- What spec's Exec answers where all is right. Condition: none. -/
import Derived.Test.YtcncanfelcjdpaaExecT
import Derived.Test.YtcncanfelcjdpaaAppF
import Derived.Test.YtcncanfelcjdpaaExecL
import Derived.Deep.RegionWith
import Derived.BigRegion
import Derived.Deep.DeepCutAuto
import Derived.Deep.RegionHeld3
namespace Go.Proofs.Ytcncanfelcjdpaa.ExecU
open Go.RowKit Go.Deep Num InsC InsO ProgC ProgD IntC CpuC CpuS ReadB ExecA ExecS ExecT AppI AppF ExecJ ExecK
set_option maxRecDepth 100000
set_option linter.unusedVariables false
set_option linter.unusedSimpArgs false

theorem step_len (p : List Q) (pc : Int) (r mem : List Int) : (stepX p pc r mem).2.1.length = r.length := by
  unfold stepX
  split
  · rfl
  · exact set_len
/-- What is known behind 'x, d := l5Exec(..)': both lie somewhere. -/
def Cut3 (W : World) (xp t0 t1 t2 t3 xk xa xv xs : Int) (s8 s9 : Value) (wx : World) : Prop :=
  ∃ b8 b9 gx cx, s8 = .pointer (some ⟨b8, 0, none⟩) ∧ s9 = .pointer (some ⟨b9, 0, none⟩) ∧ (W.heap.size ≤ b8 ∧ W.heap.size ≤ b9) ∧ Below W.heap.size W wx ∧
    (wx.cell? ⟨b8, 0, none⟩ = some (.int .i64 xp) ∧ wx.cell? ⟨b8, 1, none⟩ = some (.slice (some ⟨gx, 0, none⟩) 4 cx)) ∧
    (wx.cell? ⟨b9, 0, none⟩ = some (.int .i64 xk) ∧ wx.cell? ⟨b9, 1, none⟩ = some (.int .i64 xa) ∧ wx.cell? ⟨b9, 2, none⟩ = some (.int .i64 xv) ∧ wx.cell? ⟨b9, 3, none⟩ = some (.int .i64 xs)) ∧
    wx.ownsRow W.heap.size 3 1 (.slice (some ⟨gx, 0, none⟩) 4 cx) 4 [.int .i64 t0, .int .i64 t1, .int .i64 t2, .int .i64 t3]
theorem keepU {W X : World} {n : Nat} {a b : Value} (hn : n < W.heap.size) (h0 : W.cell? ⟨n, 0, none⟩ = some a) (h1 : W.cell? ⟨n, 1, none⟩ = some b) (hb : Below W.heap.size W X) : X.cell? ⟨n, 0, none⟩ = some a ∧ X.cell? ⟨n, 1, none⟩ = some b ∧ Below W.heap.size W X :=
  ⟨(hb.cell (p := ⟨n, 0, none⟩) hn).trans h0, (hb.cell (p := ⟨n, 1, none⟩) hn).trans h1, hb⟩
theorem own_setne {W : World} {B e s g cap b j : Nat} {x : Value} {n : Nat} {xs : List Value} (h : W.ownsRow B e s (.slice (some ⟨g, 0, none⟩) n cap) n xs) (hb : ¬ b = g) : (W.setCell ⟨b, j, none⟩ x).ownsRow B e s (.slice (some ⟨g, 0, none⟩) n cap) n xs :=
  h.kept (Draw.grown_setCell W b j x) (.inr (by simp [Value.ownBlock]; omega))
theorem gcell {X w5 : World} {g : Nat} (h : X.grownBy w5 (some g)) : (∀ b o, b < X.heap.size → ¬ b = g → w5.cell? ⟨b, o, none⟩ = X.cell? ⟨b, o, none⟩) ∧ (∀ b o, b < X.heap.size → ¬ b = g → w5.frozen? ⟨b, o, none⟩ = X.frozen? ⟨b, o, none⟩) :=
  ⟨fun b o hb hg => World.cell?_of_block (h.block b hb (by simpa using hg)), fun b o hb hg => World.frozen?_of_block (h.block b hb (by simpa using hg))⟩
theorem gbel {W X w5 : World} {g : Nat} (hX : Below W.heap.size W X) (hg : W.heap.size ≤ g) (h : X.grownBy w5 (some g)) : Below W.heap.size W w5 :=
  hX.trans ((Below.refl _ _).grown h hX.size (fun k hk => by simp at hk; omega))

theorem cell_at (X : World) (cs : Array Value) (t : TypeId) (n j : Nat) (h : n = X.heap.size) : (X.alloc (.cells cs t)).cell? ⟨n, j, none⟩ = cs[j]? := World.cell?_alloc_at _ _ _ _ h
theorem some_of {X : World} {p : Addr} (h : (X.cell? p).isSome = true) : ∃ v, X.cell? p = some v := Option.isSome_iff_exists.1 h
theorem cutA {W w5 : World} {xp t0 t1 t2 t3 xk xa xv xs : Int} {gx cx : Nat} (hB : Below W.heap.size W w5) (hr : w5.ownsRow W.heap.size 3 1 (.slice (some ⟨gx, 0, none⟩) 4 cx) 4 [.int .i64 t0, .int .i64 t1, .int .i64 t2, .int .i64 t3]) : Cut3 W xp t0 t1 t2 t3 xk xa xv xs (.pointer (some ⟨w5.heap.size, 0, none⟩)) (.pointer (some ⟨w5.heap.size + 1, 0, none⟩)) ((w5.alloc (.cells #[.int .i64 xp, .slice (some ⟨gx, 0, none⟩) 4 cx] 27)).alloc (.cells #[.int .i64 xk, .int .i64 xa, .int .i64 xv, .int .i64 xs] 31)) := by
  refine ⟨_, _, gx, cx, rfl, rfl, ⟨hB.size, Nat.le_trans hB.size (by omega)⟩, balloc (balloc hB _) _, ⟨?_, ?_⟩, ⟨?_, ?_, ?_, ?_⟩, (hr.alloc _).alloc _⟩
  · rw [World.cell?_alloc_lt _ _ _ (by simp), cell_at _ _ _ _ _ rfl]; rfl
  · rw [World.cell?_alloc_lt _ _ _ (by simp), cell_at _ _ _ _ _ rfl]; rfl
  all_goals (rw [cell_at _ _ _ _ _ (by simp)]; rfl)
theorem cutB {W w5 : World} {xp t0 t1 t2 t3 xk xa xv xs : Int} {gx cx : Nat} (hB : Below W.heap.size W w5) (hr : w5.ownsRow W.heap.size 3 1 (.slice (some ⟨gx, 0, none⟩) 4 cx) 4 [.int .i64 t0, .int .i64 t1, .int .i64 t2, .int .i64 t3]) : Cut3 W xp t0 t1 t2 t3 xk xa xv xs (.pointer (some ⟨w5.heap.size + 1, 0, none⟩)) (.pointer (some ⟨w5.heap.size, 0, none⟩)) ((w5.alloc (.cells #[.int .i64 xk, .int .i64 xa, .int .i64 xv, .int .i64 xs] 31)).alloc (.cells #[.int .i64 xp, .slice (some ⟨gx, 0, none⟩) 4 cx] 27)) := by
  refine ⟨_, _, gx, cx, rfl, rfl, ⟨Nat.le_trans hB.size (by omega), hB.size⟩, balloc (balloc hB _) _, ⟨?_, ?_⟩, ⟨?_, ?_, ?_, ?_⟩, (hr.alloc _).alloc _⟩
  · rw [cell_at _ _ _ _ _ (by simp)]; rfl
  · rw [cell_at _ _ _ _ _ (by simp)]; rfl
  all_goals (rw [World.cell?_alloc_lt _ _ _ (by simp), cell_at _ _ _ _ _ rfl]; rfl)
theorem cutC {W w5 : World} {xp t0 t1 t2 t3 xk xa xv xs : Int} {gx cx : Nat} {b : Nat} (hB : Below W.heap.size W w5) (hr : w5.ownsRow W.heap.size 3 1 (.slice (some ⟨gx, 0, none⟩) 4 cx) 4 [.int .i64 t0, .int .i64 t1, .int .i64 t2, .int .i64 t3]) (hb : W.heap.size ≤ b) (hne : ¬ b = gx) (h0 : (w5.cell? ⟨b, 0, none⟩).isSome = true) (h1 : (w5.cell? ⟨b, 1, none⟩).isSome = true) : Cut3 W xp t0 t1 t2 t3 xk xa xv xs (.pointer (some ⟨b, 0, none⟩)) (.pointer (some ⟨w5.heap.size, 0, none⟩)) (((w5.setCell ⟨b, 0, none⟩ (.int .i64 xp)).setCell ⟨b, 1, none⟩ (.slice (some ⟨gx, 0, none⟩) 4 cx)).alloc (.cells #[.int .i64 xk, .int .i64 xa, .int .i64 xv, .int .i64 xs] 31)) := by
  obtain ⟨u0, h0⟩ := some_of h0
  obtain ⟨u1, h1⟩ := some_of h1
  have hl : b < w5.heap.size := World.block_lt_of_cell? w5 _ h0
  obtain ⟨z0, z1⟩ := two (.int .i64 xp) (.slice (some ⟨gx, 0, none⟩) 4 cx) h0 h1
  refine ⟨_, _, gx, cx, rfl, rfl, ⟨hb, hB.size⟩, balloc (bset (bset hB hb _) hb _) _, ⟨?_, ?_⟩, ⟨?_, ?_, ?_, ?_⟩, (own_setne (own_setne hr hne) hne).alloc _⟩
  · rw [World.cell?_alloc_lt _ _ _ (by simpa using hl)]; exact z0
  · rw [World.cell?_alloc_lt _ _ _ (by simpa using hl)]; exact z1
  all_goals (rw [cell_at _ _ _ _ _ (by simp)]; rfl)
theorem cutE {W w5 : World} {xp t0 t1 t2 t3 xk xa xv xs : Int} {gx cx : Nat} {b : Nat} (hB : Below W.heap.size W w5) (hr : w5.ownsRow W.heap.size 3 1 (.slice (some ⟨gx, 0, none⟩) 4 cx) 4 [.int .i64 t0, .int .i64 t1, .int .i64 t2, .int .i64 t3]) (hb : W.heap.size ≤ b) (hne : ¬ b = gx) (h0 : (w5.cell? ⟨b, 0, none⟩).isSome = true) (h1 : (w5.cell? ⟨b, 1, none⟩).isSome = true) (h2 : (w5.cell? ⟨b, 2, none⟩).isSome = true) (h3 : (w5.cell? ⟨b, 3, none⟩).isSome = true) : Cut3 W xp t0 t1 t2 t3 xk xa xv xs (.pointer (some ⟨w5.heap.size, 0, none⟩)) (.pointer (some ⟨b, 0, none⟩)) (((((w5.setCell ⟨b, 0, none⟩ (.int .i64 xk)).setCell ⟨b, 1, none⟩ (.int .i64 xa)).setCell ⟨b, 2, none⟩ (.int .i64 xv)).setCell ⟨b, 3, none⟩ (.int .i64 xs)).alloc (.cells #[.int .i64 xp, .slice (some ⟨gx, 0, none⟩) 4 cx] 27)) := by
  obtain ⟨u0, h0⟩ := some_of h0
  obtain ⟨u1, h1⟩ := some_of h1
  obtain ⟨u2, h2⟩ := some_of h2
  obtain ⟨u3, h3⟩ := some_of h3
  have hl : b < w5.heap.size := World.block_lt_of_cell? w5 _ h0
  obtain ⟨z0, z1, z2, z3⟩ := four (.int .i64 xk) (.int .i64 xa) (.int .i64 xv) (.int .i64 xs) h0 h1 h2 h3
  refine ⟨_, _, gx, cx, rfl, rfl, ⟨hB.size, hb⟩, balloc (bset (bset (bset (bset hB hb _) hb _) hb _) hb _) _, ⟨?_, ?_⟩, ⟨?_, ?_, ?_, ?_⟩, (own_setne (own_setne (own_setne (own_setne hr hne) hne) hne) hne).alloc _⟩
  · rw [cell_at _ _ _ _ _ (by simp)]; rfl
  · rw [cell_at _ _ _ _ _ (by simp)]; rfl
  · rw [World.cell?_alloc_lt _ _ _ (by simpa using hl)]; exact z0
  · rw [World.cell?_alloc_lt _ _ _ (by simpa using hl)]; exact z1
  · rw [World.cell?_alloc_lt _ _ _ (by simpa using hl)]; exact z2
  · rw [World.cell?_alloc_lt _ _ _ (by simpa using hl)]; exact z3
theorem cutD {W w5 : World} {xp t0 t1 t2 t3 xk xa xv xs : Int} {gx cx : Nat} {b c : Nat} (hB : Below W.heap.size W w5) (hr : w5.ownsRow W.heap.size 3 1 (.slice (some ⟨gx, 0, none⟩) 4 cx) 4 [.int .i64 t0, .int .i64 t1, .int .i64 t2, .int .i64 t3]) (hb : W.heap.size ≤ b) (hc : W.heap.size ≤ c) (hbc : ¬ b = c) (hne : ¬ b = gx) (hne' : ¬ c = gx) (k0 : (w5.cell? ⟨b, 0, none⟩).isSome = true) (k1 : (w5.cell? ⟨b, 1, none⟩).isSome = true)
    (h0 : (w5.cell? ⟨c, 0, none⟩).isSome = true) (h1 : (w5.cell? ⟨c, 1, none⟩).isSome = true) (h2 : (w5.cell? ⟨c, 2, none⟩).isSome = true) (h3 : (w5.cell? ⟨c, 3, none⟩).isSome = true) : Cut3 W xp t0 t1 t2 t3 xk xa xv xs (.pointer (some ⟨b, 0, none⟩)) (.pointer (some ⟨c, 0, none⟩)) (((((((w5.setCell ⟨b, 0, none⟩ (.int .i64 xp)).setCell ⟨b, 1, none⟩ (.slice (some ⟨gx, 0, none⟩) 4 cx)).setCell ⟨c, 0, none⟩ (.int .i64 xk)).setCell ⟨c, 1, none⟩ (.int .i64 xa)).setCell ⟨c, 2, none⟩ (.int .i64 xv)).setCell ⟨c, 3, none⟩ (.int .i64 xs))) := by
  obtain ⟨v0, k0⟩ := some_of k0
  obtain ⟨v1, k1⟩ := some_of k1
  obtain ⟨u0, h0⟩ := some_of h0
  obtain ⟨u1, h1⟩ := some_of h1
  obtain ⟨u2, h2⟩ := some_of h2
  obtain ⟨u3, h3⟩ := some_of h3
  obtain ⟨y0, y1⟩ := two (.int .i64 xp) (.slice (some ⟨gx, 0, none⟩) 4 cx) k0 k1
  have o : ∀ (X : World) (i j : Nat) (q : Value), (X.setCell ⟨b, i, none⟩ q).cell? ⟨c, j, none⟩ = X.cell? ⟨c, j, none⟩ := fun X i j q => World.cell?_setCell_other _ _ _ _ (by simp <;> omega)
  have o' : ∀ (X : World) (i j : Nat) (q : Value), (X.setCell ⟨c, i, none⟩ q).cell? ⟨b, j, none⟩ = X.cell? ⟨b, j, none⟩ := fun X i j q => World.cell?_setCell_other _ _ _ _ (by simp <;> omega)
  have e : ∀ j, ((w5.setCell ⟨b, 0, none⟩ (.int .i64 xp)).setCell ⟨b, 1, none⟩ (.slice (some ⟨gx, 0, none⟩) 4 cx)).cell? ⟨c, j, none⟩ = w5.cell? ⟨c, j, none⟩ := fun j => by rw [o, o]
  obtain ⟨z0, z1, z2, z3⟩ := four (.int .i64 xk) (.int .i64 xa) (.int .i64 xv) (.int .i64 xs) ((e 0).trans h0) ((e 1).trans h1) ((e 2).trans h2) ((e 3).trans h3)
  refine ⟨_, _, gx, cx, rfl, rfl, ⟨hb, hc⟩, bset (bset (bset (bset (bset (bset hB hb _) hb _) hc _) hc _) hc _) hc _, ⟨?_, ?_⟩, ⟨z0, z1, z2, z3⟩, own_setne (own_setne (own_setne (own_setne (own_setne (own_setne hr hne) hne) hne') hne') hne') hne'⟩
  · rw [o', o', o', o']; exact y0
  · rw [o', o', o', o']; exact y1

set_option maxHeartbeats 16000000 in
theorem yes_any (pv mv : Value) (g cap : Nat) (p : List Q) (pc : Nat) (r mem : List Int) (w : World) (hL : Lies w pv p) (hg : g < w.heap.size) (hc : ∀ i (n : Int), r[i]? = some n → w.cell? ⟨g, i, none⟩ = some (.int .i64 n)) (hM : Ints w mv mem)
    (hp : progB p = true) (hcb : cpuB pc r = true) (hwb : wordsB mem = true) (hpl : p.length ≤ 40) (hml : mem.length ≤ 64) (h4 : r.length = 4) (hrw : wordsB r = true) :
    Calls Try.prog 9 #[pv, cpu pc (.slice (some ⟨g, 0, none⟩) 4 cap), mv] w fun e w' => ExecPost (stepX p pc r mem) w e w' ∧ Below w.heap.size w w' := by
  have hl4 := (step_len p pc r mem).trans h4
  generalize hx : stepX p pc r mem = x at hl4 ⊢
  obtain ⟨xp, xr, xk, xa, xv, xs⟩ := x
  obtain ⟨t0, t1, t2, t3, rfl⟩ := CoreI.four_of (r := xr) hl4
  have HX := hd hx
  clear hl4 hx
  have hC : Ints w (.slice (some ⟨g, 0, none⟩) 4 cap) r := .inr ⟨g, cap, by rw [h4], hg, hc⟩
  obtain ⟨ma, mc, rfl⟩ := ints_slice hM
  obtain ⟨pa, pcp, rfl⟩ : ∃ a c, pv = .slice a p.length c := by
    rcases hL with ⟨rfl, rfl⟩ | ⟨g, c, rfl, _⟩
    · exact ⟨_, _, rfl⟩
    · exact ⟨_, _, rfl⟩
  have hb0 := ExecI.start w pc (.slice (some ⟨g, 0, none⟩) 4 cap)
  have hF := Fr.new w pc (.slice (some ⟨g, 0, none⟩) 4 cap)
  have hpr := ProgD.spec_any _ _ _ (hL.below hb0) (by omega)
  rw [hp] at hpr
  have HC := hd hC
  have HL := hd hL
  have HM := hd hM
  have Hc := hd hc
  have H4 := hd h4
  have HP := hd hp
  unfold cpu
  clear hL hC hM hc hp
  go_enter Try.func9, Try.ntmps9
  go_wp2_with (go_at_call 38; fail)
  refine hpr.mono ?_
  rintro e w1 ⟨rfl, hb1⟩
  have hF1 := hF.below hb1
  have hbe := hb0.trans (hb1.mono hb0.size)
  have hcp := CpuS.spec_any pc _ r w1 (HC.out.below hbe) (by omega)
  unfold cpu at hcp
  clear hpr hF hb0 hb1
  have k0 := hF1.a0
  have k1 := hF1.a1
  rw [hcb] at hcp
  go_wp2_with (go_at_call 11; fail)
  refine hcp.mono ?_
  rintro e W ⟨rfl, hb2⟩
  replace hF1 := hF1.below hb2
  replace hbe := hbe.trans (hb2.mono hbe.size)
  clear hcp k0 k1 hb2
  have hwm := hd (CpuS.words_any _ mem W (HM.out.below hbe) (by omega))
  rw [hwb] at hwm
  have h64' : decide ((64 : Int) < mem.length) = false := by simp; omega
  have hlt := hF1.lt
  have HS := hd (fun (X : World) (hX : Below W.heap.size W X) => keepU (n := w.heap.size) (by omega) hF1.a0 hF1.a1 hX)
  have HSRC := hd (fun (X : World) (hX : Below W.heap.size W X) => AppI.src (w := X) (g := g) (off := 0) (bs := r) (fun j x hj => by rw [Nat.zero_add]; exact ((hbe.trans (hX.mono hbe.size)).cell (p := ⟨g, j, none⟩) hg).trans (Hc.out j x hj)))
  have hl5 := fun (X : World) (gx cx : Nat) (hG : Gr X W.heap.size gx cx r) (hX : Below W.heap.size W X) => l5_any W.heap.size gx cx pc (.slice pa p.length pcp) (.slice ma mem.length mc) p r mem X hG (HL.out.below (hbe.trans (hX.mono hbe.size))) (HM.out.below (hbe.trans (hX.mono hbe.size))) HP.out hrw hml
  rw [HX.out] at hl5
  unfold L5Post cpu CpuC.did at hl5
  dsimp only at hl5
  simp only [List.map_cons, List.map_nil, ic] at hl5
  have HL5 := hd hl5
  have HF := hd hF1
  have HBE := hd hbe
  clear HX hl5 hF1 hbe hcb hwb hrw HL HM HC Hc HP h4
  go_wp2_with (go_at_call 39; refine hwm.out.mono ?_; rintro e w' ⟨rfl, rfl⟩)
  clear hwm
  go_cut [8, 9] (fun s8 s9 wx => Cut3 W xp t0 t1 t2 t3 xk xa xv xs s8 s9 wx)
  case first =>
    have qa1 : ¬ W.heap.size + 1 = W.heap.size := by omega
    have qb1 : ¬ W.heap.size = W.heap.size + 1 := by omega
    have qc1 : W.heap.size < W.heap.size + 1 := by omega
    have qa2 : ¬ W.heap.size + 1 + 1 = W.heap.size := by omega
    have qb2 : ¬ W.heap.size = W.heap.size + 1 + 1 := by omega
    have qc2 : W.heap.size < W.heap.size + 1 + 1 := by omega
    have qa3 : ¬ W.heap.size + 1 + 1 + 1 = W.heap.size := by omega
    have qb3 : ¬ W.heap.size = W.heap.size + 1 + 1 + 1 := by omega
    have qc3 : W.heap.size < W.heap.size + 1 + 1 + 1 := by omega
    have qa4 : ¬ W.heap.size + 1 + 1 + 1 + 1 = W.heap.size := by omega
    have qb4 : ¬ W.heap.size = W.heap.size + 1 + 1 + 1 + 1 := by omega
    have qc4 : W.heap.size < W.heap.size + 1 + 1 + 1 + 1 := by omega
    have qd12 : ¬ W.heap.size + 1 = W.heap.size + 1 + 1 := by omega
    have qe12 : ¬ W.heap.size + 1 + 1 = W.heap.size + 1 := by omega
    have qf12 : W.heap.size + 1 < W.heap.size + 1 + 1 := by omega
    have qd13 : ¬ W.heap.size + 1 = W.heap.size + 1 + 1 + 1 := by omega
    have qe13 : ¬ W.heap.size + 1 + 1 + 1 = W.heap.size + 1 := by omega
    have qf13 : W.heap.size + 1 < W.heap.size + 1 + 1 + 1 := by omega
    have qd14 : ¬ W.heap.size + 1 = W.heap.size + 1 + 1 + 1 + 1 := by omega
    have qe14 : ¬ W.heap.size + 1 + 1 + 1 + 1 = W.heap.size + 1 := by omega
    have qf14 : W.heap.size + 1 < W.heap.size + 1 + 1 + 1 + 1 := by omega
    have qd23 : ¬ W.heap.size + 1 + 1 = W.heap.size + 1 + 1 + 1 := by omega
    have qe23 : ¬ W.heap.size + 1 + 1 + 1 = W.heap.size + 1 + 1 := by omega
    have qf23 : W.heap.size + 1 + 1 < W.heap.size + 1 + 1 + 1 := by omega
    have qd24 : ¬ W.heap.size + 1 + 1 = W.heap.size + 1 + 1 + 1 + 1 := by omega
    have qe24 : ¬ W.heap.size + 1 + 1 + 1 + 1 = W.heap.size + 1 + 1 := by omega
    have qf24 : W.heap.size + 1 + 1 < W.heap.size + 1 + 1 + 1 + 1 := by omega
    have qd34 : ¬ W.heap.size + 1 + 1 + 1 = W.heap.size + 1 + 1 + 1 + 1 := by omega
    have qe34 : ¬ W.heap.size + 1 + 1 + 1 + 1 = W.heap.size + 1 + 1 + 1 := by omega
    have qf34 : W.heap.size + 1 + 1 + 1 < W.heap.size + 1 + 1 + 1 + 1 := by omega
    go_region_held3 (fun X => X.cell? ⟨w.heap.size, 0, none⟩ = some (.int .i64 (pc : Int)) ∧ X.cell? ⟨w.heap.size, 1, none⟩ = some (.slice (some ⟨g, 0, none⟩) 4 cap) ∧ Below W.heap.size W X)
      ((refine HS.out _ ?_; repeat' first | with_reducible exact hB5 | with_reducible exact Below.refl _ _ | with_reducible refine bset ?_ (by simp <;> omega) _ | with_reducible refine balloc ?_ _ | with_reducible apply Below.drew))
      (first
        | (refine step_fresh rfl _ _ rfl _ rfl ⟨g, 0, none⟩ r 4 cap H4.out.symm (by omega) (by omega) rfl (HSRC.out _ (‹_ ∧ _ ∧ Below W.heap.size W _›.2.2)) ?_; intro cx cur hrow)
        | (go_at_call 40; refine (HL5.out _ _ _ ⟨hrow.out.own (by repeat' first | with_reducible exact AppF.heap_at _ _ _ (by first | (simp; done) | rfl | omega) | with_reducible refine AppF.heap_up ?_ _ | with_reducible refine AppF.heap_drew ?_) (by first | omega | (simp <;> omega)), H4.out, (‹_ ∧ _ ∧ Below W.heap.size W _›.2.2).size⟩ (‹_ ∧ _ ∧ Below W.heap.size W _›.2.2)).mono ?_; rintro e w5 ⟨rfl, hr5, hg5⟩; have hX5 := ‹_ ∧ _ ∧ Below W.heap.size W _›.2.2; have hB5 := gbel hX5 (by first | omega | (simp <;> omega)) hg5; have HR5 := hd hr5; obtain ⟨hc5, hf5⟩ := gcell hg5; have hz5 := hg5.size; clear hg5 hr5 hX5; simp at hz5; (try (have hz0 : W.heap.size < w5.heap.size := by omega)); (try (have hy0 : ¬ w5.heap.size = W.heap.size := by omega)); (try (have hv0 : ¬ W.heap.size = w5.heap.size := by omega)); (try (have hz1 : W.heap.size + 1 < w5.heap.size := by omega)); (try (have hy1 : ¬ w5.heap.size = W.heap.size + 1 := by omega)); (try (have hv1 : ¬ W.heap.size + 1 = w5.heap.size := by omega)); (try (have hz2 : W.heap.size + 1 + 1 < w5.heap.size := by omega)); (try (have hy2 : ¬ w5.heap.size = W.heap.size + 1 + 1 := by omega)); (try (have hv2 : ¬ W.heap.size + 1 + 1 = w5.heap.size := by omega)); (try (have hz3 : W.heap.size + 1 + 1 + 1 < w5.heap.size := by omega)); (try (have hy3 : ¬ w5.heap.size = W.heap.size + 1 + 1 + 1 := by omega)); (try (have hv3 : ¬ W.heap.size + 1 + 1 + 1 = w5.heap.size := by omega))))
    all_goals
      go_wp2_with fail
      go_meet
      first
        | with_reducible exact cutA hB5 HR5.out
        | with_reducible exact cutB hB5 HR5.out
        | with_reducible exact cutC hB5 HR5.out (by omega) (by omega) (by go_simp) (by go_simp)
        | with_reducible exact cutE hB5 HR5.out (by omega) (by omega) (by go_simp) (by go_simp) (by go_simp) (by go_simp)
        | with_reducible exact cutD hB5 HR5.out (by omega) (by omega) (by omega) (by omega) (by omega) (by go_simp) (by go_simp) (by go_simp) (by go_simp) (by go_simp) (by go_simp)
  case rest =>
  obtain ⟨b8, b9, gx, cx, rfl, rfl, ⟨hge8, hge9⟩, hb6, ⟨n0, n1⟩, ⟨e0, e1, e2, e3⟩, hown⟩ := hcut
  have hF6 := HF.out.below hb6
  have hbe6 := HBE.out.trans (hb6.mono HBE.out.size)
  have hlt6 := hF6.lt
  have hsW := HBE.out.size
  have H6 := hd (hF6.six (.int .i64 xp) (.slice (some ⟨gx, 0, none⟩) 4 cx) (.int .i64 xk) (.int .i64 xa) (.int .i64 xv) (.int .i64 xs))
  have HR := hd hown
  have HB6 := hd hbe6
  have hne1 : ¬ b9 = w.heap.size + 1 := by omega
  have hne2 : ¬ w.heap.size + 1 = b9 := by omega
  obtain ⟨_, a0, a1, b0, b1, c0, c1, c2, c3, fb, fc⟩ := hF6
  clear hown hbe6 hb6 HS HSRC HL5 HF
  go_wp2_with fail
  go_region
  all_goals
    go_wp2
    obtain ⟨z0, z1, z2, z3, z4, z5⟩ := H6.out
    unfold six at z0 z1 z2 z3 z4 z5
    refine bodyPost_ret (v := .tuple #[.agg #[.int .i64 xp, .slice (some ⟨gx, 0, none⟩) 4 cx], .agg #[.int .i64 xk, .int .i64 xa, .int .i64 xv, .int .i64 xs]]) (by simp [results, Try.results9, go_sem, z0, z1, z2, z3, z4, z5]) rfl ⟨⟨.slice (some ⟨gx, 0, none⟩) 4 cx, rfl, ?_⟩, (six_below HB6.out _ _ _ _ _ _).drew⟩
    exact own_drew (own_mono (own_set (own_set (own_set (own_set (own_set (own_set HR.out (by omega)) (by omega)) (by omega)) (by omega)) (by omega)) (by omega)) hsW)

end Go.Proofs.Ytcncanfelcjdpaa.ExecU
