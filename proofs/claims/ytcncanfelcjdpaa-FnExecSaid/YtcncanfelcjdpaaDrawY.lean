/- What spec's drawing for Exec answers: some program, some Cpu, some memory. Condition: none. -/
import Derived.Test.YtcncanfelcjdpaaDrawX
import Derived.Deep.RegionWith
import Derived.BigRegion
import Derived.Deep.RegionHeld3
namespace Go.Proofs.Ytcncanfelcjdpaa.DrawY
open Go.RowKit Go.Deep Num Draw DrawN DrawR InsC InsO ProgC ProgD DrawP DrawQ IntC AppI DrawX
open CpuC (cpu two frozen_at)
open DrawV (own_keep own_mono DrPost drawProgOk_any)
set_option maxRecDepth 100000
set_option linter.unusedVariables false
set_option linter.unusedSimpArgs false

/-- Registers that lie behind the cursor and ahead of m. -/
structure Rg (W : World) (v : Value) (r : List Int) (g m : Nat) : Prop where
  i : Ints W v r
  p : ∀ k, v.ownBlock = some k → g < k ∧ k < m
theorem Rg.step {k W W' v r g m} (h : Rg W v r g m) (t : Inv k W g W') : Rg W' v r g m := by
  refine ⟨?_, h.p⟩
  rcases h.i with h1 | ⟨b, cap, rfl, h2, h3⟩
  · exact .inl h1
  · have := h.p b rfl
    exact .inr ⟨b, cap, rfl, Nat.lt_of_lt_of_le h2 t.size, fun i n hn => t.cell (by omega) (h3 i n hn)⟩
theorem Rg.below {W W' v r g m M} (h : Rg W v r g m) (hb : Below M W W') (hM : m ≤ M) : Rg W' v r g m := by
  refine ⟨?_, h.p⟩
  rcases h.i with h1 | ⟨b, cap, rfl, h2, h3⟩
  · exact .inl h1
  · have := h.p b rfl
    exact .inr ⟨b, cap, rfl, Nat.lt_of_lt_of_le h2 hb.size, fun i n hn => (hb.cell (p := ⟨b, i, none⟩) (show b < M by omega)).trans (h3 i n hn)⟩
theorem Rg.alloc {W v r g m} (h : Rg W v r g m) (hm : m ≤ W.heap.size) (o : Obj) : Rg (W.alloc o) v r g m := h.below ((Below.refl _ _).alloc hm _) (Nat.le_refl _)
theorem Bx.make {W : World} {n : Nat} {pc : Int} {v : Value} (hn : n < W.heap.size) (h0 : W.cell? ⟨n, 0, none⟩ = some (.int .i64 0)) (h1 : W.cell? ⟨n, 1, none⟩ = some (.slice none 0 0)) (hf : ∀ j, W.frozen? ⟨n, j, none⟩ = false) :
    Bx (W.alloc (.cells #[.int .i64 pc, v] 27)) n W.heap.size pc v := by
  refine ⟨hn, by simp, ?_, ?_, ?_, ?_, ?_, ?_⟩
  · rw [World.cell?_alloc_lt _ _ _ hn]; exact h0
  · rw [World.cell?_alloc_lt _ _ _ hn]; exact h1
  · rw [World.cell?_alloc_at _ _ _ _ rfl]; rfl
  · rw [World.cell?_alloc_at _ _ _ _ rfl]; rfl
  · intro j; rw [World.frozen?_alloc_past _ _ _ hn]; exact hf j
  · intro j; exact frozen_at _ _ _ _ _ rfl

/-- What DrawExec answers. -/
def ExPost (w : World) (e : Ending) (w' : World) : Prop :=
  ∃ (pv : Value) (p : List Q) (pc : Int) (v : Value) (r : List Int) (mv : Value) (mem : List Int), e = .returned (.tuple #[pv, cpu pc v, mv]) ∧ (Lies w' pv p ∧ p.length ≤ 41) ∧ (Ints w' v r ∧ r.length ≤ 4) ∧ (Ints w' mv mem ∧ mem.length ≤ 9) ∧ Below w.heap.size w w'
/-- What is known of all of it while it is drawn. -/
structure St (k : Fx) (w1 wr : World) (n m gc : Nat) (pc : Int) (v : Value) (r : List Int) (mv : Value) (mem : List Int) : Prop where
  b : Bx wr n m pc v
  g : Rg wr v r gc m
  o : wr.ownsRow (m + 1) 3 1 mv mem.length (mem.map ic)
  i : Inv k w1 gc wr
theorem St.step {k w1 wr wr' n m gc pc v r mv mem} (h : St k w1 wr n m gc pc v r mv mem) (t : Inv k wr gc wr') (hm : gc < m) (hn : ¬ n = gc) : St k w1 wr' n m gc pc v r mv mem := by
  have hB := h.b
  have hl := hB.lt
  have hnm := hB.nm
  exact ⟨⟨hnm, Nat.lt_of_lt_of_le hl t.size, t.cell hn hB.r0, t.cell hn hB.r1, t.cell (by omega) hB.x0, t.cell (by omega) hB.x1, fun j => t.frozen hn (by omega) (hB.fr j), fun j => t.frozen (by omega) (by omega) (hB.fx j)⟩,
    h.g.step t, own_keep h.o t.2 (by omega), h.i.trans t⟩
theorem St.alloc {k w1 wr n m gc pc v r mv mem} (h : St k w1 wr n m gc pc v r mv mem) (c : On k w1 gc) (o : Obj) : St k w1 (wr.alloc o) n m gc pc v r mv mem :=
  ⟨h.b.alloc o, h.g.alloc (by have := h.b.lt; omega) o, h.o.alloc o, inv_alloc c h.i o⟩
theorem St.app {k w1 wr wr' n m gc pc v r mv mem mv' mem'} (h : St k w1 wr n m gc pc v r mv mem) (c : On k w1 gc) (hb : Below (m + 1) wr wr') (hw : w1.heap.size ≤ m + 1) (ho : wr'.ownsRow (m + 1) 3 1 mv' mem'.length (mem'.map ic)) : St k w1 wr' n m gc pc v r mv' mem' :=
  ⟨h.b.below hb, h.g.below hb (by omega), ho, h.i.below c (hb.mono hw)⟩

theorem ints_set {W : World} {v x : Value} {r : List Int} {b j : Nat} (h : Ints W v r) (hb : ∀ k, v.ownBlock = some k → ¬ b = k) : Ints (W.setCell ⟨b, j, none⟩ x) v r := by
  rcases h with h1 | ⟨g, cap, rfl, h2, h3⟩
  · exact .inl h1
  · have := hb g rfl
    exact .inr ⟨g, cap, rfl, by simpa using h2, fun i n hn => (World.cell?_setCell_other _ _ _ _ (by simp <;> omega)).trans (h3 i n hn)⟩
theorem fin {k : Fx} {w w1 Z w7 : World} {n m gc : Nat} {pc : Int} {v mv pv : Value} {r mem : List Int} {pl : List Q} (HN : n = w.heap.size) (hBW : Below w.heap.size w w1) (hwg : n ≤ gc) (hng : ¬ n = gc) (hS : St k w1 Z n m gc pc v r mv mem) (hr : r.length ≤ 4) (hml : mem.length ≤ 9) (hpl : pl.length ≤ 41)
    (ho : w7.ownsRow Z.heap.size 36 4 pv pl.length (flat pl)) (hb7 : Below Z.heap.size Z w7) : ExPost w (.returned (.tuple #[pv, cpu pc v, mv])) ((w7.setCell ⟨n, 0, none⟩ (.int .i64 pc)).setCell ⟨n, 1, none⟩ v) := by
  have hl := hS.b.lt
  have hnm := hS.b.nm
  have hg := hS.g.below hb7 (Nat.le_of_lt hl)
  have hm := own_below hS.o hb7
  have hA := own_set' (b := n) (j := 1) (x := v) (own_set' (b := n) (j := 0) (x := .int .i64 pc) ho (show n < Z.heap.size by omega)) (show n < Z.heap.size by omega)
  refine ⟨pv, pl, pc, v, r, mv, mem, rfl, ⟨lies_own hA, hpl⟩, ⟨ints_set (ints_set hg.i (fun k hk => by have := hg.p k hk; omega)) (fun k hk => by have := hg.p k hk; omega), hr⟩, ⟨ints_own (own_set' (own_set' hm (by omega)) (by omega)), hml⟩, ?_⟩
  have hZ := DrawV.Inv.out hBW (by omega) hS.i
  have hwn : w.heap.size ≤ n := by omega
  exact ((hZ.trans (hb7.mono hZ.size)).setCell (p := ⟨n, 0, none⟩) hwn _).setCell (p := ⟨n, 1, none⟩) hwn _
theorem keep2 {X : World} {n m : Nat} {a b x y : Value} (hne : ¬ n = m) (h : X.cell? ⟨m, 0, none⟩ = some a ∧ X.cell? ⟨m, 1, none⟩ = some b) : ((X.setCell ⟨n, 0, none⟩ x).setCell ⟨n, 1, none⟩ y).cell? ⟨m, 0, none⟩ = some a ∧ ((X.setCell ⟨n, 0, none⟩ x).setCell ⟨n, 1, none⟩ y).cell? ⟨m, 1, none⟩ = some b :=
  ⟨((World.cell?_setCell_other _ _ _ _ (by simp <;> omega)).trans (World.cell?_setCell_other _ _ _ _ (by simp <;> omega))).trans h.1, ((World.cell?_setCell_other _ _ _ _ (by simp <;> omega)).trans (World.cell?_setCell_other _ _ _ _ (by simp <;> omega))).trans h.2⟩
/-- The code's second half. -/
theorem half {w w' : World} {a : Option Addr} {len : Nat} {cs : List UInt8} {b off : Nat} (c : DrawR.Code w (some ⟨b, off, none⟩) len cs) (hb : Below w.heap.size w w') (h0 : ¬ len = 0) : DrawR.Code w' (some ⟨b, off + len / 2, none⟩) (len - len / 2) (cs.drop (len / 2)) := by
  obtain ⟨c1, c2, c3⟩ := c.below hb
  refine ⟨by simp [c1], by omega, ?_⟩
  rcases c3 with e | ⟨b', off', e, hc⟩
  · exact absurd e h0
  · simp at e
    obtain ⟨rfl, rfl⟩ := e
    refine .inr ⟨b, off + len / 2, rfl, fun j hj => ?_⟩
    have hj' : len / 2 + j < cs.length := by simp at hj; omega
    have := hc (len / 2 + j) hj'
    rw [show off + len / 2 + j = off + (len / 2 + j) by omega, this]
    simp

set_option maxHeartbeats 4000000 in
theorem draw_any (w : World) (a : Option Addr) (len cap : Nat) (cs : List UInt8) (c : DrawR.Code w a len cs) (hcap : len ≤ cap) :
    Calls Try.prog 7 #[.slice a len cap] w fun e w' => ExPost w e w' := by
  have hb0 : Below w.heap.size w (w.alloc (.cells #[.int .i64 0, .slice none 0 0] 27)) := (Below.refl _ _).alloc (Nat.le_refl _) _
  have C1 := hd (new_any _ a len cap cs (c.below hb0))
  have HCD := hd c
  have e0 : (w.alloc (.cells #[.int .i64 0, .slice none 0 0] 27)).cell? ⟨w.heap.size, 0, none⟩ = some (.int .i64 0) := by simp
  have e1 : (w.alloc (.cells #[.int .i64 0, .slice none 0 0] 27)).cell? ⟨w.heap.size, 1, none⟩ = some (.slice none 0 0) := by simp
  have ef : ∀ j, (w.alloc (.cells #[.int .i64 0, .slice none 0 0] 27)).frozen? ⟨w.heap.size, j, none⟩ = false := by simp
  have el : w.heap.size < (w.alloc (.cells #[.int .i64 0, .slice none 0 0] 27)).heap.size := by simp
  clear c
  go_enter Try.func7, Try.ntmps7
  go_wp2_with (go_at_call 26; fail)
  refine C1.out.mono ?_
  rintro e w1 ⟨rfl, c1, hb1⟩
  obtain ⟨k, hk⟩ : ∃ k : Fx, k = ⟨a, len, cap, cs⟩ := ⟨_, rfl⟩
  obtain ⟨gc, hgc⟩ : ∃ gc, gc = (w.alloc (.cells #[.int .i64 0, .slice none 0 0] 27)).heap.size := ⟨_, rfl⟩
  have O1 : On k w1 gc := by rw [hk, hgc]; exact ⟨_, _, c1⟩
  have HO1 := hd O1
  replace e0 := (hb1.cell (p := ⟨w.heap.size, 0, none⟩) el).trans e0
  replace e1 := (hb1.cell (p := ⟨w.heap.size, 1, none⟩) el).trans e1
  replace ef := fun j => (hb1.frozen (p := ⟨w.heap.size, j, none⟩) el).trans (ef j)
  have hng : ¬ w.heap.size = gc := by rw [hgc]; simp
  have hgl := O1.lt
  have hwg : w.heap.size ≤ gc := by rw [hgc]; simp
  replace el : w.heap.size < w1.heap.size := by omega
  have HBW := hd (hb0.trans (hb1.mono hb0.size))
  rw [← hgc]
  clear C1 c1 hk O1 hb0 hb1 hgc
  obtain ⟨n, hn⟩ : ∃ n, n = w.heap.size := ⟨_, rfl⟩
  rw [← hn] at e0 e1 ef hng hwg el ⊢
  have HN := hd hn
  clear hn
  go_wp2_with (go_at_call 27; fail)
  refine (regs_any k w1 gc HO1.out).mono ?_
  rintro e w2 ⟨pc, v, r, rfl, hr4, hown, t2⟩
  unfold CpuC.cpu
  obtain ⟨va, vc, rfl⟩ := CpuC.own_slice hown
  have hlt2 : w1.heap.size ≤ w2.heap.size := t2.size
  have hB : Bx (w2.alloc (.cells #[.int .i64 pc, .slice va r.length vc] 27)) n w2.heap.size pc (.slice va r.length vc) := Bx.make (by omega) (t2.cell hng e0) (t2.cell hng e1) (fun j => t2.frozen hng el (ef j))
  have hR : Rg (w2.alloc (.cells #[.int .i64 pc, .slice va r.length vc] 27)) (.slice va r.length vc) r gc w2.heap.size := ⟨ints_own (hown.alloc _), fun kk hk => by have := hown.lt kk hk; omega⟩
  have hI := inv_alloc HO1.out t2 (.cells #[.int .i64 pc, .slice va r.length vc] 27)
  have HST : Hid (St k w1 ((w2.alloc (.cells #[.int .i64 pc, .slice va r.length vc] 27)).alloc (.cells #[] 3)) n w2.heap.size gc pc (.slice va r.length vc) r (.slice (some ⟨w2.heap.size + 1, 0, none⟩) 0 0) []) := hd
    ⟨hB.alloc _, hR.alloc (by simp) _, by have := World.ownsRow_lit (e := 3) (size := 1) (base := w2.heap.size + 1) (w2.alloc (.cells #[.int .i64 pc, .slice va r.length vc] 27)) #[] 0 (by simp) (by unfold maxLen; omega) rfl; simpa using this, inv_alloc HO1.out hI _⟩
  clear hown t2 hB hR hI e0 e1 ef el
  go_wp2_with (go_at_call 28; fail)
  refine (below_E k _ gc 3 HST.out.i.1 (by omega) (by omega)).mono ?_
  rintro e w3 ⟨x, x0, x1, rfl, t3⟩
  have HS3 := hd (HST.out.step t3 (by omega) hng)
  obtain ⟨y, rfl⟩ := Int.eq_ofNat_of_zero_le x0
  clear t3 HST
  go_wp2_with fail
  obtain ⟨m, hm⟩ : ∃ m, m = w2.heap.size := ⟨_, rfl⟩
  rw [← hm] at HS3 ⊢
  have hgm : gc < m := by omega
  have hwm : w1.heap.size ≤ m := by omega
  clear hm hlt2
  go_loopw [7, 8] (fun mv nv wr => ∃ (j : Nat) (mem : List Int) (ma : Option Addr) (mc : Nat), nv = .int .i64 j ∧ j + mem.length ≤ 8 ∧ mv = .slice ma mem.length mc ∧ Hid (St k w1 wr n m gc pc (.slice va r.length vc) r (.slice ma mem.length mc) mem)) (fun _ nv _ => (intOf nv).toNat)
  case atStart => exact ⟨4 * y, [], some ⟨m + 1, 0, none⟩, 0, by go_num, by simp; omega, rfl, HS3⟩
  case round =>
    clear HS3
    obtain ⟨j, mem, ma, mc, rfl, hj, rfl, HS⟩ := hrel
    by_cases hlt : 0 < j
    · have hj0 : (0 : Int) < j := by omega
      go_wp2_with (go_at_call 28; fail)
      refine (below_E k wr gc 9 HS.out.i.1 (by omega) (by omega)).mono ?_
      rintro e w4 ⟨z, z0, z1, rfl, t4⟩
      have HS4 := hd (HS.out.step t4 hgm hng)
      have HO4 := hd (HS4.out.o.alloc (.cells #[.int .i64 z] 3))
      have hl4 := HS4.out.b.lt
      clear t4 HS
      go_wp2_with (at_builtin; refine wpList_append_ints rfl _ _ rfl (m + 1) _ mem mem.length rfl rfl HO4.out w4.heap.size 0 [z] 1 1 rfl rfl (one_cell w4 z) (by simp; omega) (by simp; omega) ?_)
      intro v5 w5 hown5 hb5 _
      have HS5 := hd ((HS4.out.alloc HO1.out _).app (mem' := mem ++ [z]) HO1.out hb5 (by omega) (by simpa using hown5))
      obtain ⟨a5, c5, rfl⟩ := CpuC.own_slice hown5
      clear hown5 hb5 HS4 HO4
      go_wp2
      go_roundw
      case rel => exact ⟨j - 1, mem ++ [z], a5, c5, by go_num, by simp; omega, by simp, hd (by simpa using HS5.out)⟩
      case measure => simp [intOf]; omega
    · obtain rfl : j = 0 := by omega
      go_wp2_with (go_at_call 29; fail)
      refine (once_E k wr gc 20 HS.out.i.1 (by omega)).mono ?_
      rintro e w4 ⟨b4, rfl, t4⟩
      have HS4 := hd (HS.out.step t4 hgm hng)
      clear t4 HS
      cases b4
      · have HK7 := hd (fun (w7 : World) (hb : Below w4.heap.size w4 w7) => (⟨(hb.cell (p := ⟨m, 0, none⟩) HS4.out.b.lt).trans HS4.out.b.x0, (hb.cell (p := ⟨m, 1, none⟩) HS4.out.b.lt).trans HS4.out.b.x1⟩ : w7.cell? ⟨m, 0, none⟩ = some (.int .i64 pc) ∧ w7.cell? ⟨m, 1, none⟩ = some (.slice va r.length vc)))
        have hmm := HS4.out.b.nm
        have hml := HS4.out.b.lt
        have HZ := hd (DrawV.Inv.out HBW.out (by have := HN.out; omega) HS4.out.i)
        by_cases hl0 : len = 0
        · subst hl0
          have HD := hd (fun a' c' => drawProgOk_any w4.drew a' 0 c' [] ⟨rfl, by omega, .inl rfl⟩)
          clear HCD
          have p15 : IntKind.i64.wrap ((0 : Int) / 2) = 0 := rfl
          have p16 : IntKind.i64.wrap (0 : Int) = 0 := rfl
          by_cases hc0 : cap = 0
          · subst hc0
            go_wp2_with fail
            obtain ⟨_, hl4, q0, q1, y0, y1, gr, gx⟩ := HS4.out.b
            go_region_held3 (fun X => X.cell? ⟨m, 0, none⟩ = some (.int .i64 pc) ∧ X.cell? ⟨m, 1, none⟩ = some (.slice va r.length vc))
              (first | exact ⟨y0, y1⟩ | exact HK7.out _ hb7 | exact keep2 (by omega) (HK7.out _ hb7))
              (first | (go_at_call 31; refine (HD.out _ _).mono ?_; rintro e w7 ⟨pv, pl, rfl, hpl, hown7, hb7'⟩; have hb7 : Below w4.heap.size w4 w7 := (Below.refl _ _).drew.trans hb7'; have s0 := (hb7.cell (p := ⟨n, 0, none⟩) (show n < w4.heap.size by omega)).trans q0; have s1 := (hb7.cell (p := ⟨n, 1, none⟩) (show n < w4.heap.size by omega)).trans q1; have sf := fun j => (hb7.frozen (p := ⟨n, j, none⟩) (show n < w4.heap.size by omega)).trans (gr j); have HO7 := hd hown7; have HB7 := hd hb7; clear hown7 hb7'))
            all_goals
              have HF := hd (fin HN.out HBW.out hwg hng HS4.out hr4 (by first | omega | (simp; omega)) hpl HO7.out HB7.out)
              obtain ⟨z0, z1⟩ := two (.int .i64 pc) (.slice va r.length vc) s0 s1
              go_wp2
              exact bodyPost_ret (v := .tuple #[pv, .agg #[.int .i64 pc, .slice va r.length vc], .slice ma mem.length mc]) (by simp [results, Try.results7, go_sem, z0, z1]) rfl (by have := HF.out; simpa [CpuC.cpu] using this)
          · have hc1 : ¬ 0 = cap := by omega
            go_wp2_with fail
            obtain ⟨_, hl4, q0, q1, y0, y1, gr, gx⟩ := HS4.out.b
            go_region_held3 (fun X => X.cell? ⟨m, 0, none⟩ = some (.int .i64 pc) ∧ X.cell? ⟨m, 1, none⟩ = some (.slice va r.length vc))
              (first | exact ⟨y0, y1⟩ | exact HK7.out _ hb7 | exact keep2 (by omega) (HK7.out _ hb7))
              (first | (go_at_call 31; refine (HD.out _ _).mono ?_; rintro e w7 ⟨pv, pl, rfl, hpl, hown7, hb7'⟩; have hb7 : Below w4.heap.size w4 w7 := (Below.refl _ _).drew.trans hb7'; have s0 := (hb7.cell (p := ⟨n, 0, none⟩) (show n < w4.heap.size by omega)).trans q0; have s1 := (hb7.cell (p := ⟨n, 1, none⟩) (show n < w4.heap.size by omega)).trans q1; have sf := fun j => (hb7.frozen (p := ⟨n, j, none⟩) (show n < w4.heap.size by omega)).trans (gr j); have HO7 := hd hown7; have HB7 := hd hb7; clear hown7 hb7'))
            all_goals
              have HF := hd (fin HN.out HBW.out hwg hng HS4.out hr4 (by first | omega | (simp; omega)) hpl HO7.out HB7.out)
              obtain ⟨z0, z1⟩ := two (.int .i64 pc) (.slice va r.length vc) s0 s1
              go_wp2
              exact bodyPost_ret (v := .tuple #[pv, .agg #[.int .i64 pc, .slice va r.length vc], .slice ma mem.length mc]) (by simp [results, Try.results7, go_sem, z0, z1]) rfl (by have := HF.out; simpa [CpuC.cpu] using this)
        · obtain ⟨b, off, rfl⟩ : ∃ b off, a = some ⟨b, off, none⟩ := by
            rcases HCD.out.2.2 with e | ⟨b, off, e, _⟩
            · exact absurd e hl0
            · exact ⟨b, off, e⟩
          have HD := hd (drawProgOk_any w4.drew (some ⟨b, off + len / 2, none⟩) (len - len / 2) (cap - len / 2) _ (half (a := none) HCD.out HZ.out.drew hl0))
          have hbig := HCD.out.2.1
          clear HCD
          have p1 : (0 : Int) ≤ (len : Int) / 2 := by omega
          have p2 : (len : Int) / 2 ≤ len := by omega
          have p4 : ¬ cap = len / 2 := by omega
          have p10 : ((len : Int) / 2).toNat = len / 2 := by omega
          have p15 : IntKind.i64.wrap ((len : Int) / 2) = (len : Int) / 2 := by rw [IntKind.wrap_i64]; omega
          go_wp2_with fail
          obtain ⟨_, hl4, q0, q1, y0, y1, gr, gx⟩ := HS4.out.b
          go_region_held3 (fun X => X.cell? ⟨m, 0, none⟩ = some (.int .i64 pc) ∧ X.cell? ⟨m, 1, none⟩ = some (.slice va r.length vc))
            (first | exact ⟨y0, y1⟩ | exact HK7.out _ hb7 | exact keep2 (by omega) (HK7.out _ hb7))
            (first | (go_at_call 31; refine (HD.out).mono ?_; rintro e w7 ⟨pv, pl, rfl, hpl, hown7, hb7'⟩; have hb7 : Below w4.heap.size w4 w7 := (Below.refl _ _).drew.trans hb7'; have s0 := (hb7.cell (p := ⟨n, 0, none⟩) (show n < w4.heap.size by omega)).trans q0; have s1 := (hb7.cell (p := ⟨n, 1, none⟩) (show n < w4.heap.size by omega)).trans q1; have sf := fun j => (hb7.frozen (p := ⟨n, j, none⟩) (show n < w4.heap.size by omega)).trans (gr j); have HO7 := hd hown7; have HB7 := hd hb7; clear hown7 hb7'))
          all_goals
            have HF := hd (fin HN.out HBW.out hwg hng HS4.out hr4 (by first | omega | (simp; omega)) hpl HO7.out HB7.out)
            obtain ⟨z0, z1⟩ := two (.int .i64 pc) (.slice va r.length vc) s0 s1
            go_wp2
            exact bodyPost_ret (v := .tuple #[pv, .agg #[.int .i64 pc, .slice va r.length vc], .slice ma mem.length mc]) (by simp [results, Try.results7, go_sem, z0, z1]) rfl (by have := HF.out; simpa [CpuC.cpu] using this)
      · have hl4 := HS4.out.b.lt
        have HP := hd (pick_E k (w4.alloc (.cells #[.int .i64 (-1000000), .int .i64 1000001] 3)) gc (inv_alloc HO1.out HS4.out.i _).1 w4.heap.size 2 tc2 (by omega) rfl (by omega) (by omega) (tc2_cells w4))
        go_wp2_with (go_at_call 30; fail)
        refine HP.out.mono ?_
        rintro e w5 ⟨z, rfl, t5⟩
        have HS5 := hd ((HS4.out.alloc HO1.out (.cells #[.int .i64 (-1000000), .int .i64 1000001] 3)).step t5 hgm hng)
        have HO5 := hd (HS5.out.o.alloc (.cells #[.int .i64 z] 3))
        have hl5 := HS5.out.b.lt
        clear t5 HS4 HP
        go_wp2_with (at_builtin; refine wpList_append_ints rfl _ _ rfl (m + 1) _ mem mem.length rfl rfl HO5.out w5.heap.size 0 [z] 1 1 rfl rfl (one_cell w5 z) (by simp; omega) (by simp; omega) ?_)
        intro v6 w6 hown6 hb6 _
        have HS6 := hd ((HS5.out.alloc HO1.out _).app (mem' := mem ++ [z]) HO1.out hb6 (by omega) (by simpa using hown6))
        obtain ⟨a6, c6, rfl⟩ := CpuC.own_slice hown6
        clear hown6 hb6 HS5 HO5
        have HK7 := hd (fun (w7 : World) (hb : Below w6.heap.size w6 w7) => (⟨(hb.cell (p := ⟨m, 0, none⟩) HS6.out.b.lt).trans HS6.out.b.x0, (hb.cell (p := ⟨m, 1, none⟩) HS6.out.b.lt).trans HS6.out.b.x1⟩ : w7.cell? ⟨m, 0, none⟩ = some (.int .i64 pc) ∧ w7.cell? ⟨m, 1, none⟩ = some (.slice va r.length vc)))
        have hmm := HS6.out.b.nm
        have hml := HS6.out.b.lt
        have HZ := hd (DrawV.Inv.out HBW.out (by have := HN.out; omega) HS6.out.i)
        by_cases hl0 : len = 0
        · subst hl0
          have HD := hd (fun a' c' => drawProgOk_any w6.drew a' 0 c' [] ⟨rfl, by omega, .inl rfl⟩)
          clear HCD
          have p15 : IntKind.i64.wrap ((0 : Int) / 2) = 0 := rfl
          have p16 : IntKind.i64.wrap (0 : Int) = 0 := rfl
          by_cases hc0 : cap = 0
          · subst hc0
            go_wp2_with fail
            obtain ⟨_, hl4, q0, q1, y0, y1, gr, gx⟩ := HS6.out.b
            go_region_held3 (fun X => X.cell? ⟨m, 0, none⟩ = some (.int .i64 pc) ∧ X.cell? ⟨m, 1, none⟩ = some (.slice va r.length vc))
              (first | exact ⟨y0, y1⟩ | exact HK7.out _ hb7 | exact keep2 (by omega) (HK7.out _ hb7))
              (first | (go_at_call 31; refine (HD.out _ _).mono ?_; rintro e w7 ⟨pv, pl, rfl, hpl, hown7, hb7'⟩; have hb7 : Below w6.heap.size w6 w7 := (Below.refl _ _).drew.trans hb7'; have s0 := (hb7.cell (p := ⟨n, 0, none⟩) (show n < w6.heap.size by omega)).trans q0; have s1 := (hb7.cell (p := ⟨n, 1, none⟩) (show n < w6.heap.size by omega)).trans q1; have sf := fun j => (hb7.frozen (p := ⟨n, j, none⟩) (show n < w6.heap.size by omega)).trans (gr j); have HO7 := hd hown7; have HB7 := hd hb7; clear hown7 hb7'))
            all_goals
              have HF := hd (fin HN.out HBW.out hwg hng HS6.out hr4 (by first | omega | (simp; omega)) hpl HO7.out HB7.out)
              obtain ⟨z0, z1⟩ := two (.int .i64 pc) (.slice va r.length vc) s0 s1
              go_wp2
              exact bodyPost_ret (v := .tuple #[pv, .agg #[.int .i64 pc, .slice va r.length vc], .slice a6 (mem.length + 1) c6]) (by simp [results, Try.results7, go_sem, z0, z1]) rfl (by have := HF.out; simpa [CpuC.cpu] using this)
          · have hc1 : ¬ 0 = cap := by omega
            go_wp2_with fail
            obtain ⟨_, hl4, q0, q1, y0, y1, gr, gx⟩ := HS6.out.b
            go_region_held3 (fun X => X.cell? ⟨m, 0, none⟩ = some (.int .i64 pc) ∧ X.cell? ⟨m, 1, none⟩ = some (.slice va r.length vc))
              (first | exact ⟨y0, y1⟩ | exact HK7.out _ hb7 | exact keep2 (by omega) (HK7.out _ hb7))
              (first | (go_at_call 31; refine (HD.out _ _).mono ?_; rintro e w7 ⟨pv, pl, rfl, hpl, hown7, hb7'⟩; have hb7 : Below w6.heap.size w6 w7 := (Below.refl _ _).drew.trans hb7'; have s0 := (hb7.cell (p := ⟨n, 0, none⟩) (show n < w6.heap.size by omega)).trans q0; have s1 := (hb7.cell (p := ⟨n, 1, none⟩) (show n < w6.heap.size by omega)).trans q1; have sf := fun j => (hb7.frozen (p := ⟨n, j, none⟩) (show n < w6.heap.size by omega)).trans (gr j); have HO7 := hd hown7; have HB7 := hd hb7; clear hown7 hb7'))
            all_goals
              have HF := hd (fin HN.out HBW.out hwg hng HS6.out hr4 (by first | omega | (simp; omega)) hpl HO7.out HB7.out)
              obtain ⟨z0, z1⟩ := two (.int .i64 pc) (.slice va r.length vc) s0 s1
              go_wp2
              exact bodyPost_ret (v := .tuple #[pv, .agg #[.int .i64 pc, .slice va r.length vc], .slice a6 (mem.length + 1) c6]) (by simp [results, Try.results7, go_sem, z0, z1]) rfl (by have := HF.out; simpa [CpuC.cpu] using this)
        · obtain ⟨b, off, rfl⟩ : ∃ b off, a = some ⟨b, off, none⟩ := by
            rcases HCD.out.2.2 with e | ⟨b, off, e, _⟩
            · exact absurd e hl0
            · exact ⟨b, off, e⟩
          have HD := hd (drawProgOk_any w6.drew (some ⟨b, off + len / 2, none⟩) (len - len / 2) (cap - len / 2) _ (half (a := none) HCD.out HZ.out.drew hl0))
          have hbig := HCD.out.2.1
          clear HCD
          have p1 : (0 : Int) ≤ (len : Int) / 2 := by omega
          have p2 : (len : Int) / 2 ≤ len := by omega
          have p4 : ¬ cap = len / 2 := by omega
          have p10 : ((len : Int) / 2).toNat = len / 2 := by omega
          have p15 : IntKind.i64.wrap ((len : Int) / 2) = (len : Int) / 2 := by rw [IntKind.wrap_i64]; omega
          go_wp2_with fail
          obtain ⟨_, hl4, q0, q1, y0, y1, gr, gx⟩ := HS6.out.b
          go_region_held3 (fun X => X.cell? ⟨m, 0, none⟩ = some (.int .i64 pc) ∧ X.cell? ⟨m, 1, none⟩ = some (.slice va r.length vc))
            (first | exact ⟨y0, y1⟩ | exact HK7.out _ hb7 | exact keep2 (by omega) (HK7.out _ hb7))
            (first | (go_at_call 31; refine (HD.out).mono ?_; rintro e w7 ⟨pv, pl, rfl, hpl, hown7, hb7'⟩; have hb7 : Below w6.heap.size w6 w7 := (Below.refl _ _).drew.trans hb7'; have s0 := (hb7.cell (p := ⟨n, 0, none⟩) (show n < w6.heap.size by omega)).trans q0; have s1 := (hb7.cell (p := ⟨n, 1, none⟩) (show n < w6.heap.size by omega)).trans q1; have sf := fun j => (hb7.frozen (p := ⟨n, j, none⟩) (show n < w6.heap.size by omega)).trans (gr j); have HO7 := hd hown7; have HB7 := hd hb7; clear hown7 hb7'))
          all_goals
            have HF := hd (fin HN.out HBW.out hwg hng HS6.out hr4 (by first | omega | (simp; omega)) hpl HO7.out HB7.out)
            obtain ⟨z0, z1⟩ := two (.int .i64 pc) (.slice va r.length vc) s0 s1
            go_wp2
            exact bodyPost_ret (v := .tuple #[pv, .agg #[.int .i64 pc, .slice va r.length vc], .slice a6 (mem.length + 1) c6]) (by simp [results, Try.results7, go_sem, z0, z1]) rfl (by have := HF.out; simpa [CpuC.cpu] using this)

end Go.Proofs.Ytcncanfelcjdpaa.DrawY
