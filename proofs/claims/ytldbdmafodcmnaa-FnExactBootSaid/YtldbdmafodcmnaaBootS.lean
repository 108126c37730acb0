/- What spec's Boot answers. Condition: none. -/
import Derived.Test.YtldbdmafodcmnaaBootD
import Derived.Deep.RegionHeld3
namespace Go.Proofs.Ytldbdmafodcmnaa.BootS
open Go.RowKit Go.Deep Num InsC InsO ProgC IntC RowC PrgL UnC BootA BootB BootC BootD
set_option maxRecDepth 100000
set_option linter.unusedVariables false
set_option linter.unusedSimpArgs false

/-- 'append([]Ins{}, l...)' as one step of a region that draws its order. -/
theorem step_copy {w : World} {ops : Array Oper} {o : Oper} {a : Act} {K : Act → World → Prop} {Q' : Exit → Act → World → Prop} {E : Prop} (hgd : o.guard = none) (s x : Operand)
    (ho : o.op = .call { callee := .builtin .append, args := #[s, x], argTypes := #[45, 45] }) (B : Nat) (v xv : Value) (l : List Q) (hs : a.eval s = v)
    (hown : w.ownsRow B 69 4 v 0 []) (hx : a.eval x = xv) (hL : Lies w xv l) (hlen : l.length ≤ 1048576) (hbase : B ≤ w.heap.size)
    (h : ∀ v' w', w'.ownsRow B 69 4 v' l.length (flat l) → w.grownBy w' v.ownBlock → K (a.put o.dst v') w') : if Region.wanted o (yielded ops a.tmps) = true then Oper.wp Try.prog o a w K Q' else E := by
  have hw : Region.wanted o (yielded ops a.tmps) = true := by simp [Region.wanted, hgd]
  rw [if_pos hw]
  obtain ⟨i0, hi, hz0, hz1, hz2⟩ := info_parts infoIns
  rcases hL with ⟨rfl, rfl⟩ | ⟨g, c, rfl, hg, hc⟩
  · have hr := run_append_owned_none (P := Try.prog) w B 45 o.type 69 i0 4 Try.underlying45 hi v 0 [] hown
    unfold Oper.wp execOp
    simp only [ho, resolve, invoke, builtin, Sem.run_bind, Sem.run_pure, Result.andThen_ok, List.map_toArray, List.map_cons, List.map_nil, hs, hx, hr]
    exact h v w hown (World.grownBy.refl _ _)
  · refine wp_append_own w s x 45 ho B 69 i0 (ins 0 0 0 0) 4 32 Try.underlying45 hi hz0 hz1 hz2 rfl (by decide) v 0 [] hs hown ⟨g, 0, none⟩ l.length c (flat l) hx (flat_length l) (flat_src hc) (flat_one l) (by unfold maxLen; omega) (by omega) hbase ?_
    intro v' w' h1 h2 _
    exact h v' w' (by simpa using h1) h2
/-- 'append(v, u)' of one program, as one step. -/
theorem step_push {w : World} {ops : Array Oper} {o : Oper} {a : Act} {K : Act → World → Prop} {Q' : Exit → Act → World → Prop} {E : Prop} (hgd : o.guard = none) (s x : Operand)
    (ho : o.op = .call { callee := .builtin .append, args := #[s, x], argTypes := #[24, 24] }) (v u : Value) (n g H : Nat) (xs : List Value) (hs : a.eval s = v)
    (hown : w.ownsRow 0 45 1 v n xs) (hx : a.eval x = .slice (some ⟨g, 0, none⟩) 1 1) (hc : w.cell? ⟨g, 0, none⟩ = some u) (h1 : u.oneCell' = true) (hlen : n + 1 ≤ 1048577) (hH : w.heap.size = H)
    (h : ∀ v' w', w'.ownsRow 0 45 1 v' (n + 1) (xs ++ [u]) → w.grownBy w' v.ownBlock → (v'.ownBlock = v.ownBlock ∨ v'.ownBlock = some H) → K (a.put o.dst v') w') : if Region.wanted o (yielded ops a.tmps) = true then Oper.wp Try.prog o a w K Q' else E := by
  have hw : Region.wanted o (yielded ops a.tmps) = true := by simp [Region.wanted, hgd]
  rw [if_pos hw]
  subst hH
  obtain ⟨i0, hi, hz0, hz1, hz2⟩ := info_parts infoProg
  obtain ⟨v', w', hr, h2, h3, _, h5⟩ := run_append_own_at (P := Try.prog) w 0 24 o.type 45 i0 (.slice none 0 0) 1 24 Try.underlying24 hi hz0 hz1 hz2 rfl (by decide) v n xs hown ⟨g, 0, none⟩ 1 1 [u] rfl (by
    intro j y hj
    match j, hj with
    | 0, hj =>
      simp at hj
      subst hj
      simpa [Addr.add] using hc) (by simpa using h1) (by unfold maxLen; omega) (by omega) (Nat.zero_le _)
  unfold Oper.wp execOp
  simp only [ho, resolve, invoke, builtin, Sem.run_bind, Sem.run_pure, Result.andThen_ok, List.map_toArray, List.map_cons, List.map_nil, hs, hx, hr]
  exact h v' w' h2 h3 h5
theorem Grow.keep {B : Nat} {L : List (List Q)} {v : Value} {w w' : World} {bs bs' : List Nat} (h : Grow B L v w bs) (hk : Keep bs' w w') (hB : ∀ y ∈ bs', y < B) : Grow B L v w' bs :=
  ⟨h.row.keep good_prog hk (fun y hy hy' => by have := h.above y hy; have := hB y hy'; omega), h.nodup, h.above⟩
theorem zeros_any (w : World) : Calls Try.prog 15 #[.int .i64 4] w fun e w' => ∃ g, e = .returned (.slice (some ⟨g, 0, none⟩) 4 4) ∧ IntsO w' (.slice (some ⟨g, 0, none⟩) 4 4) [0, 0, 0, 0] [g] ∧ w.heap.size ≤ g ∧ Below w.heap.size w w' := by
  have hmk := make4
  go_enter Try.func15, Try.ntmps15
  go_wp2
  go_ret
  exact ⟨w.heap.size, rfl, ints4 (heap_alloc_new w _), Nat.le_refl _, (Below.refl _ _).alloc (Nat.le_refl _) _⟩

/-- What spec's Boot answers. -/
def SPost (L : List (List Q)) (w : World) (e : Ending) (w' : World) : Prop :=
  ∃ s b, e = .returned (.tuple #[(bootX L).v s, .bool (progsB L)]) ∧ UnO w' s (bootX L) b ∧ Below w.heap.size w w'

theorem bcell {w X : World} {b o : Nat} {v : Value} (h : Below w.heap.size w X) (hb : b < w.heap.size) (hc : w.cell? ⟨b, o, none⟩ = some v) : X.cell? ⟨b, o, none⟩ = some v := (h.cell (p := ⟨b, o, none⟩) hb).trans hc
theorem balloc {w X : World} (h : Below w.heap.size w X) (o : Obj) : Below w.heap.size w (X.alloc o) := h.alloc h.size o
theorem hsz2 {wr w2 : World} {r : Option Nat} {b : Nat} (h : (wr.alloc (.cells #[] 69)).drew.grownBy w2 r) (hb : b < wr.heap.size) : b < w2.heap.size := by have := h.size; simp at this; omega
theorem hsz1 {X w2 : World} {r : Option Nat} (h : X.grownBy w2 r) {b n : Nat} (hn : n ≤ X.heap.size) (hb : b < n) : b < w2.heap.size := by have := h.size; omega
theorem heap_chain {wr X w2 w3 : World} {o O : Obj} {r2 r3 : Option Nat} {b : Nat} (hb : Below wr.heap.size wr X) (h2 : X.grownBy w2 r2) (h3 : (w2.alloc o).grownBy w3 r3) (hlt : b < wr.heap.size) (n2 : some b ≠ r2) (n3 : some b ≠ r3) (h : wr.heap[b]? = some O) : w3.heap[b]? = some O := by
  have s1 := hb.size
  have s2 := h2.size
  rw [h3.block b (by simp; omega) n3, Below.heap_alloc _ _ _ (by omega), h2.block b (by omega) n2, hb.block b hlt]
  exact h
theorem bel_chain {wr X w2 : World} {r2 : Option Nat} {o : Obj} (hb : Below wr.heap.size wr X) (h2 : X.grownBy w2 r2) (hr : ∀ y, r2 = some y → wr.heap.size ≤ y) : Below wr.heap.size wr (w2.alloc o) := balloc (hb.grown h2 hb.size hr) o
theorem own_chain {wr X w2 : World} {o : Obj} {r2 : Option Nat} {B e s n : Nat} {v : Value} {xs : List Value} (hb : Below wr.heap.size wr X) (h2 : X.grownBy w2 r2) (hd : ∀ y ∈ blk v, some y ≠ r2) (h : wr.ownsRow B e s v n xs) : (w2.alloc o).ownsRow B e s v n xs := by
  have h1 := own_kept h (Keep.of_below [] hb) (by simp)
  refine World.ownsRow.alloc ⟨h1.1, ?_⟩ o
  rcases h1.2 with h3 | ⟨g, cap, cur, rfl, h3, h4, h5⟩
  · exact .inl h3
  · exact .inr ⟨g, cap, cur, rfl, h3, (h2.block g (Array.getElem?_eq_some_iff.1 h4).1 (hd g (by rw [blk_some]; simp))).trans h4, h5⟩
/-- The box of what is under way. -/
def box (v r o : Value) : Array Value := #[.int .i64 2, .int .i64 0, v, .slice none 0 0, o, .slice none 0 0, .slice none 0 0, r, .slice none 0 0]

set_option maxHeartbeats 4000000 in
theorem spec_yes (g c : Nat) (L : List (List Q)) (bs : List Nat) (w : World) (hw : wt L ≤ 1048576) (h : Progs w (.slice (some ⟨g, 0, none⟩) L.length c) L bs) (hok : progsB L = true) :
    Calls Try.prog 5 #[.slice (some ⟨g, 0, none⟩) L.length c] w fun e w' => SPost L w e w' := by
  have hLs : L.length ≤ 1048576 := by unfold wt at hw; omega
  have HS : Hid (sumL L ≤ 1048576) := hd (by unfold wt at hw; omega)
  have hb0 : Below w.heap.size w (w.alloc (.cells #[.int .i64 0, .int .i64 0, .slice none 0 0, .slice none 0 0, .slice none 0 0, .slice none 0 0, .slice none 0 0, .slice none 0 0, .slice none 0 0] 31)) := (Below.refl _ w).alloc (Nat.le_refl _) _
  have H := hd (l6_any _ L bs _ hw (h.below good_prog hb0))
  rw [hok] at H
  obtain ⟨W0, hW0⟩ : ∃ W0, w.alloc (.cells #[.int .i64 0, .int .i64 0, .slice none 0 0, .slice none 0 0, .slice none 0 0, .slice none 0 0, .slice none 0 0, .slice none 0 0, .slice none 0 0] 31) = W0 := ⟨_, rfl⟩
  have hB : W0.heap[w.heap.size]? = some (.cells #[.int .i64 0, .int .i64 0, .slice none 0 0, .slice none 0 0, .slice none 0 0, .slice none 0 0, .slice none 0 0, .slice none 0 0, .slice none 0 0] 31 (0, 0)) := by rw [← hW0]; exact heap_alloc_new w _
  rw [hW0] at H hb0
  replace hW0 := hd hW0
  have HL := hd h
  replace hok := hd hok
  clear h hw
  go_enter Try.func5, Try.ntmps5
  go_wp2_with (go_at_call 14; fail)
  rw [hW0.out]
  refine H.out.mono ?_
  rintro e w1 ⟨rfl, hb1⟩
  have hs1 : w.heap.size < w1.heap.size := Nat.lt_of_lt_of_le (Array.getElem?_eq_some_iff.1 hB).1 hb1.size
  replace hB := (hb1.block _ (Array.getElem?_eq_some_iff.1 hB).1).trans hB
  replace hb0 := hb0.trans (hb1.mono hb0.size)
  clear hb1 H hW0
  obtain ⟨H1, hH1⟩ : ∃ H1, w1.heap.size = H1 := ⟨_, rfl⟩
  obtain ⟨W1, hW1⟩ : ∃ W1, ((w1.alloc (.cells #[.int .i64 1] 3)).alloc (.cells #[.int .i64 0, .int .i64 1, .int .i64 0, .int .i64 0, .int .i64 2] 44)).alloc (.cells (box (.slice none 0 0) (.slice (some ⟨H1, 0, none⟩) 1 1) (.slice (some ⟨H1 + 1, 0, none⟩) 1 1)) 31) = W1 := ⟨_, rfl⟩
  have hbW : Below w1.heap.size w1 W1 := by rw [← hW1]; exact (((Below.refl _ _).alloc (Nat.le_refl _) _).alloc (by simp) _).alloc (by simp; omega) _
  have gb : W1.heap[H1 + 1 + 1]? = some (.cells (box (.slice none 0 0) (.slice (some ⟨H1, 0, none⟩) 1 1) (.slice (some ⟨H1 + 1, 0, none⟩) 1 1)) 31 (0, 0)) := by rw [← hW1]; exact AppF.heap_at _ _ _ (by simp [hH1])
  have go' : W1.heap[H1 + 1]? = some (.cells #[.int .i64 0, .int .i64 1, .int .i64 0, .int .i64 0, .int .i64 2] 44 (0, 0)) := by rw [← hW1]; exact AppF.heap_up (AppF.heap_at _ _ _ (by simp [hH1])) _
  have gr : W1.heap[H1]? = some (.cells #[.int .i64 1] 3 (0, 0)) := by rw [← hW1]; exact AppF.heap_up (AppF.heap_up (AppF.heap_at _ _ _ hH1.symm) _) _
  have hs3 : W1.heap.size = H1 + 1 + 1 + 1 := by rw [← hW1]; simp [hH1]
  replace hW1 := hd hW1
  unfold box at hW1
  go_wp2_with fail
  rw [hW1.out]
  clear hW1
  have hLW := HL.out.below good_prog (hb0.trans (hbW.mono hb0.size))
  have hgl : ∀ y ∈ bs, y < H1 + 1 + 1 := fun y hy => by
    have h1 := HL.out.lt good_prog y hy
    omega
  have HL1 := hd hLW
  have HGB := hd gb
  have HB1 : Hid (Below w.heap.size w W1) := hd (hb0.trans (hbW.mono hb0.size))
  have HBX := hd ((hbW.block _ hs1).trans hB)
  have HGO := hd go'
  have HGR := hd gr
  clear hLW gb go' gr hbW hB hb0 HL
  go_loopw [5] (fun i wr => ∃ k : Nat, k ≤ L.length ∧ i = .int .i64 k ∧ Hid (∃ v bs', wr.heap[H1 + 1 + 1]? = some (.cells (box v (.slice (some ⟨H1, 0, none⟩) 1 1) (.slice (some ⟨H1 + 1, 0, none⟩) 1 1)) 31 (0, 0)) ∧ Grow (H1 + 1 + 1 + 1) (L.take k) v wr bs') ∧ Below (H1 + 1 + 1) W1 wr) (fun i _ => L.length - (intOf i).toNat)
  case atStart => exact ⟨0, Nat.zero_le _, rfl, hd ⟨_, [], HGB.out, grow_start _ _⟩, Below.refl _ _⟩
  case round =>
    clear HGB
    obtain ⟨k, hk, rfl, hG, hbel⟩ := hrel
    by_cases hlt : k < L.length
    · obtain ⟨v, bs', hB, hG⟩ := hG.out
      have hPr := HL1.out.keep (bs' := [H1 + 1 + 1]) good_prog ⟨hbel.os, hbel.tape, hbel.output, hbel.size, fun y hy hn => by
        by_cases hyl : y < H1 + 1 + 1
        · exact hbel.block y hyl
        · simp at hn; omega⟩ (fun y hy hyb => by have := hgl y hy; simp at hyb; omega)
      have HGI : g ∈ bs := by
        obtain ⟨_, _, _, _, rfl, _⟩ := HL1.out
        rw [blk_some]; simp
      obtain ⟨l, cs, b, hl, ⟨v1, rfl, hv1⟩, ho⟩ := hPr.out hlt
      have c0 := ho.cell 0 v1 rfl
      rw [Nat.mul_one, Nat.add_zero] at c0
      have hll : l.length ≤ 1048576 := by have := sum_mem L k l hl; have := HS.out; omega
      have hlies := hv1.lies
      obtain ⟨a1, c1, rfl⟩ := hv1.slice
      have c2 := cell_of_row wr (H1 + 1 + 1) 2 _ _ (0, 0) hB
      have f2 := frozen_of_row wr (H1 + 1 + 1) 2 _ _ hB
      simp only [box, List.getElem?_toArray, List.getElem?_cons_zero, List.getElem?_cons_succ] at c2
      have hk0 : (0 : Int) ≤ k := by omega
      have hk1 : (k : Int) < L.length := by omega
      have HT : Hid (L.take (k + 1) = L.take k ++ [l]) := hd (by
        obtain ⟨h1, h2⟩ := List.getElem?_eq_some_iff.1 hl
        rw [List.take_succ_eq_append_getElem h1, h2])
      have htl : (L.take k).length = k := by simp; omega
      obtain ⟨xs, hx⟩ := row_own hG.row
      rw [htl] at hx
      obtain ⟨va, vc, rfl⟩ := own_slice hx
      have HX := hd hx
      have HLI := hd hlies
      have HGr := hd hG
      have HBx := hd hB
      clear hl ho hv1 hPr hlies hx hG hB
      go_wp2_with fail
      have hws : H1 + 1 + 1 < wr.heap.size := (Array.getElem?_eq_some_iff.1 HBx.out).1
      have hgw : g < H1 + 1 + 1 := hgl g HGI
      have hgw' : g < wr.heap.size := by omega
      have hvn : Hid (∀ y, Value.ownBlock (.slice va k vc) = some y → H1 + 1 + 1 < y) := hd (fun y hy => HGr.out.above y (by obtain ⟨_, _, _, _, rfl, _⟩ := HGr.out.row; simp [blk_of hy]))
      have hn1 : some (H1 + 1 + 1) ≠ Value.ownBlock (.slice va k vc) := fun h => by have := hvn.out _ h.symm; omega
      have hn2 : some g ≠ Value.ownBlock (.slice va k vc) := fun h => by have := hvn.out _ h.symm; omega
      have hm1 : some (H1 + 1 + 1) ≠ Value.ownBlock (.slice (some ⟨wr.heap.size, 0, none⟩) 0 0) := by simp [Value.ownBlock]; omega
      have hm2 : some g ≠ Value.ownBlock (.slice (some ⟨wr.heap.size, 0, none⟩) 0 0) := by simp [Value.ownBlock]; omega
      have hm3 : ∀ y ∈ blk (.slice va k vc), some y ≠ Value.ownBlock (.slice (some ⟨wr.heap.size, 0, none⟩) 0 0) := fun y hy h => by
        have h1 := (own_lt HX.out y hy).2
        simp [Value.ownBlock] at h
        omega
      go_region_law
        (first
          | (refine step_copy rfl _ _ rfl wr.heap.size (.slice (some ⟨wr.heap.size, 0, none⟩) 0 0) (.slice a1 l.length c1) l rfl (World.ownsRow_lit _ #[] 0 (by simp) (by unfold maxLen; omega) rfl) rfl (HLI.out.below (by (repeat' first | with_reducible exact Below.refl _ _ | with_reducible refine balloc ?_ _ | with_reducible apply Below.drew); done)) hll (by simp) ?_; intro u w2 hu hgr2; obtain ⟨ua, uc, rfl⟩ := own_slice hu; have k1 := hgr2.cell (bcell (by (repeat' first | with_reducible exact Below.refl _ _ | with_reducible refine balloc ?_ _ | with_reducible apply Below.drew); done) hws c2) hm1; have k2 := hsz2 hgr2 hws)
          | (refine step_push rfl _ _ rfl (.slice va k vc) (.slice ua l.length uc) k w2.heap.size (w2.heap.size + 1) xs rfl (own_chain (by (repeat' first | with_reducible exact Below.refl _ _ | with_reducible refine balloc ?_ _ | with_reducible apply Below.drew); done) hgr2 hm3 HX.out) rfl (by simp) rfl (by omega) (by simp) ?_; intro v3 w3 hv3 hgr3 hat3; have hB3 := heap_chain (by (repeat' first | with_reducible exact Below.refl _ _ | with_reducible refine balloc ?_ _ | with_reducible apply Below.drew); done) hgr2 hgr3 hws hm1 hn1 HBx.out; have hfz := frozen_of_row w3 (H1 + 1 + 1) 2 _ _ hB3; have k3 : w3.cell? ⟨H1 + 1 + 1, 2, none⟩ = some (.slice va k vc) := cell_of_row w3 (H1 + 1 + 1) 2 _ _ (0, 0) hB3; obtain ⟨v3a, v3c, rfl⟩ := own_slice hv3))
      all_goals
        have hbX : Below wr.heap.size wr (w2.alloc (.cells #[.slice ua l.length uc] 45)) := bel_chain (by (repeat' first | with_reducible exact Below.refl _ _ | with_reducible refine balloc ?_ _ | with_reducible apply Below.drew); done) hgr2 (fun y hy => by simp [Value.ownBlock] at hy; omega)
        have hg4 := grow_step (v' := .slice v3a (k + 1) v3c) (w2 := w3) HGr.out (by omega) hbX (hu.alloc _) (by rw [htl]; exact own_kept HX.out (Keep.of_below [] hbX) (by simp)) (by rw [htl]; exact hv3) hgr3 (by simpa using hat3)
        have HG5 : Hid (∃ v bs', (w3.setCell ⟨H1 + 1 + 1, 2, none⟩ (.slice v3a (k + 1) v3c)).heap[H1 + 1 + 1]? = some (.cells (box v (.slice (some ⟨H1, 0, none⟩) 1 1) (.slice (some ⟨H1 + 1, 0, none⟩) 1 1)) 31 (0, 0)) ∧ Grow (H1 + 1 + 1 + 1) (L.take (k + 1)) v (w3.setCell ⟨H1 + 1 + 1, 2, none⟩ (.slice v3a (k + 1) v3c)) bs') := hd (by
          obtain ⟨bs4, h4⟩ := hg4
          refine ⟨_, bs4, heap_setCell_same w3 (H1 + 1 + 1) 2 _ _ (.slice v3a (k + 1) v3c) hB3, ?_⟩
          rw [HT.out]
          exact Grow.keep h4 (Keep.set w3 (H1 + 1 + 1) 2 _ [H1 + 1 + 1] (by simp)) (by simp))
        have hb5 : Below (H1 + 1 + 1) W1 (w3.setCell ⟨H1 + 1 + 1, 2, none⟩ (.slice v3a (k + 1) v3c)) := ((hbel.trans (hbX.mono (by omega))).grown hgr3 (by have := hbX.size; omega) (fun y hy => by have := hvn.out y hy; omega)).setCell (Nat.le_refl _) _
        clear hg4 hbX hu hgr2 hv3 hgr3 hat3 hB3 hfz
        go_wp2_with fail
        go_roundw
        case rel => exact ⟨k + 1, by omega, by go_num, HG5, hb5⟩
        case measure => simp [intOf]; omega
    · obtain rfl : k = L.length := by omega
      obtain ⟨v, bs', hB, hG⟩ := hG.out
      rw [List.take_length] at hG
      obtain ⟨va, vc, rfl⟩ := hG.row.slice
      have hws : H1 + 1 + 1 < wr.heap.size := (Array.getElem?_eq_some_iff.1 hB).1
      have hX0 := (hbel.block w.heap.size (by omega)).trans HBX.out
      have hO0 := (hbel.block (H1 + 1) (by omega)).trans HGO.out
      have hR0 := (hbel.block H1 (by omega)).trans HGR.out
      have hbw := HB1.out.trans (hbel.mono (by omega))
      clear hbel HBX HGO HGR HB1 HL1
      go_wp2_with (go_at_call 15; fail)
      refine (zeros_any wr).mono ?_
      rintro e wA ⟨z1, rfl, i1, hz1, hbA⟩
      go_wp2_with (go_at_call 15; fail)
      refine (zeros_any wA).mono ?_
      rintro e wB ⟨z2, rfl, i2, hz2, hbB⟩
      have hsA := hbA.size
      have hsB := hbB.size
      have hz1l := i1.lt z1 (by simp)
      have hz2l := i2.lt z2 (by simp)
      have hbAB := hbA.trans (hbB.mono hbA.size)
      obtain ⟨W2, hW2⟩ : ∃ W2, (wB.alloc (.cells #[.int .i64 0, .int .i64 0, .int .i64 (-1), .int .i64 (-1)] 3)).alloc (.cells (pr1.cells (.slice (some ⟨z1, 0, none⟩) 4 4) (.slice (some ⟨z2, 0, none⟩) 4 4) (.slice (some ⟨wB.heap.size, 0, none⟩) 4 4)).toArray 50) = W2 := ⟨_, rfl⟩
      have hb2 : Below wB.heap.size wB W2 := by rw [← hW2]; exact ((Below.refl _ _).alloc (Nat.le_refl _) _).alloc (by simp) _
      have gf : W2.heap[wB.heap.size]? = some (.cells #[.int .i64 0, .int .i64 0, .int .i64 (-1), .int .i64 (-1)] 3 (0, 0)) := by rw [← hW2]; exact AppF.heap_up (heap_alloc_new wB _) _
      have gp : W2.heap[wB.heap.size + 1]? = some (.cells (pr1.cells (.slice (some ⟨z1, 0, none⟩) 4 4) (.slice (some ⟨z2, 0, none⟩) 4 4) (.slice (some ⟨wB.heap.size, 0, none⟩) 4 4)).toArray 50 (0, 0)) := by rw [← hW2]; exact AppF.heap_at _ _ _ (by simp)
      have hbr := hbAB.trans (hb2.mono hbAB.size)
      have hB2 := (hbr.block _ hws).trans hB
      have hX2 := (hbr.block w.heap.size (by omega)).trans hX0
      have hO2 := (hbr.block (H1 + 1) (by omega)).trans hO0
      have hR2 := (hbr.block H1 (by omega)).trans hR0
      have hk1 := Keep.set W2 (H1 + 1 + 1) 3 (.slice (some ⟨wB.heap.size + 1, 0, none⟩) 1 1) [H1 + 1 + 1] (by simp)
      have hX3 := (hk1.block w.heap.size (by have := hbr.size; omega) (by simp; omega)).trans hX2
      have hk2 := nine_keep (W2.setCell ⟨H1 + 1 + 1, 3, none⟩ (.slice (some ⟨wB.heap.size + 1, 0, none⟩) 1 1)) w.heap.size (.int .i64 2) (.int .i64 0) (.slice va L.length vc) (.slice (some ⟨wB.heap.size + 1, 0, none⟩) 1 1) (.slice (some ⟨H1 + 1, 0, none⟩) 1 1) (.slice none 0 0) (.slice none 0 0) (.slice (some ⟨H1, 0, none⟩) 1 1) (.slice none 0 0)
      have HZ := hd (nine_cells (.int .i64 2) (.int .i64 0) (.slice va L.length vc) (.slice (some ⟨wB.heap.size + 1, 0, none⟩) 1 1) (.slice (some ⟨H1 + 1, 0, none⟩) 1 1) (.slice none 0 0) (.slice none 0 0) (.slice (some ⟨H1, 0, none⟩) 1 1) (.slice none 0 0) hX3)
      have hk : Keep [H1 + 1 + 1, w.heap.size] W2 (nine (W2.setCell ⟨H1 + 1 + 1, 3, none⟩ (.slice (some ⟨wB.heap.size + 1, 0, none⟩) 1 1)) w.heap.size (.int .i64 2) (.int .i64 0) (.slice va L.length vc) (.slice (some ⟨wB.heap.size + 1, 0, none⟩) 1 1) (.slice (some ⟨H1 + 1, 0, none⟩) 1 1) (.slice none 0 0) (.slice none 0 0) (.slice (some ⟨H1, 0, none⟩) 1 1) (.slice none 0 0)) := (hk1.mono (by simp)).trans (hk2.mono (by simp))
      have hnk : ∀ y, H1 + 1 + 1 < y → y ∉ [H1 + 1 + 1, w.heap.size] := fun y hy h => by simp at h; omega
      have HP : Hid (SPost L w (.returned (.tuple #[(bootU L).v ⟨.slice va L.length vc, (.slice (some ⟨wB.heap.size + 1, 0, none⟩) 1 1), (.slice (some ⟨H1 + 1, 0, none⟩) 1 1), (.slice none 0 0), (.slice none 0 0), (.slice (some ⟨H1, 0, none⟩) 1 1), (.slice none 0 0)⟩, .bool true])) (nine (W2.setCell ⟨H1 + 1 + 1, 3, none⟩ (.slice (some ⟨wB.heap.size + 1, 0, none⟩) 1 1)) w.heap.size (.int .i64 2) (.int .i64 0) (.slice va L.length vc) (.slice (some ⟨wB.heap.size + 1, 0, none⟩) 1 1) (.slice (some ⟨H1 + 1, 0, none⟩) 1 1) (.slice none 0 0) (.slice none 0 0) (.slice (some ⟨H1, 0, none⟩) 1 1) (.slice none 0 0))) := hd (by
        have e : bootX L = bootU L := by unfold bootX; rw [hok.out]; rfl
        refine ⟨_, ⟨bs', (wB.heap.size + 1) :: ([z1] ++ ([z2] ++ [wB.heap.size])), [H1 + 1], [], [], [H1], []⟩, by rw [e, hok.out], ?_, ?_⟩
        · rw [e]
          have hs2 := hb2.size
          exact ⟨(hG.row.below good_prog hbr).keep good_prog hk (fun y hy => hnk y (by have := hG.above y hy; omega)),
            row_one ((hk.block _ (Array.getElem?_eq_some_iff.1 gp).1 (hnk _ (by omega))).trans gp) rfl ⟨_, _, _, [z1], [z2], [wB.heap.size], rfl, ((i1.below hbB).below hb2).keep hk (fun y hy => hnk y (by simp at hy; omega)), (i2.below hb2).keep hk (fun y hy => hnk y (by simp at hy; omega)), (ints4 gf).keep hk (fun y hy => hnk y (by simp at hy; omega)), rfl⟩,
            row_one (P := POp) (x := op1) ((hk.block (H1 + 1) (Array.getElem?_eq_some_iff.1 hO2).1 (by simp; omega)).trans hO2) rfl ⟨rfl, rfl⟩, Row.nil _ _ _ _, Row.nil _ _ _ _,
            ints_one ((hk.block H1 (Array.getElem?_eq_some_iff.1 hR2).1 (by simp; omega)).trans hR2), intsO_nil _⟩
        · exact (hbw.trans (hbr.mono hbw.size)).trans (hk.below (by simp; omega) (hbw.trans (hbr.mono hbw.size)).size))
      have c : ∀ j, _ := fun j => cell_of_row W2 _ j _ _ (0, 0) hX2
      have d : ∀ j, _ := fun j => cell_of_row W2 _ j _ _ (0, 0) hB2
      have c0 := c 0
      have f0 := frozen_of_row W2 _ 0 _ _ hX2
      have d0 := d 0
      have c1 := c 1
      have f1 := frozen_of_row W2 _ 1 _ _ hX2
      have d1 := d 1
      have c2 := c 2
      have f2 := frozen_of_row W2 _ 2 _ _ hX2
      have d2 := d 2
      have c3 := c 3
      have f3 := frozen_of_row W2 _ 3 _ _ hX2
      have d3 := d 3
      have c4 := c 4
      have f4 := frozen_of_row W2 _ 4 _ _ hX2
      have d4 := d 4
      have c5 := c 5
      have f5 := frozen_of_row W2 _ 5 _ _ hX2
      have d5 := d 5
      have c6 := c 6
      have f6 := frozen_of_row W2 _ 6 _ _ hX2
      have d6 := d 6
      have c7 := c 7
      have f7 := frozen_of_row W2 _ 7 _ _ hX2
      have d7 := d 7
      have c8 := c 8
      have f8 := frozen_of_row W2 _ 8 _ _ hX2
      have d8 := d 8
      have e3 := frozen_of_row W2 _ 3 _ _ hB2
      simp only [box, List.getElem?_toArray, List.getElem?_cons_zero, List.getElem?_cons_succ] at c0 d0 c1 d1 c2 d2 c3 d3 c4 d4 c5 d5 c6 d6 c7 d7 c8 d8
      have HW := hd hW2
      unfold pr1 Pr.cells ic at HW
      rw [← HW.out] at e3 c0 f0 d0 c1 f1 d1 c2 f2 d2 c3 f3 d3 c4 f4 d4 c5 f5 d5 c6 f6 d6 c7 f7 d7 c8 f8 d8
      have hne : ¬ w.heap.size = H1 + 1 + 1 := by omega
      have hne' : ¬ H1 + 1 + 1 = w.heap.size := by omega
      clear c d hG hB2 hX2 hX3 hO2 hR2 hX0 hO0 hR0 hB hbw hbr hb2 hbA hbB hbAB i1 i2 gf gp hk hk1 hk2 hnk hW2
      go_wp2
      rw [HW.out]
      obtain ⟨y0, y1, y2, y3, y4, y5, y6, y7, y8⟩ := HZ.out
      unfold nine at y0 y1 y2 y3 y4 y5 y6 y7 y8
      exact bodyPost_ret (v := .tuple #[(bootU L).v ⟨.slice va L.length vc, (.slice (some ⟨wB.heap.size + 1, 0, none⟩) 1 1), (.slice (some ⟨H1 + 1, 0, none⟩) 1 1), (.slice none 0 0), (.slice none 0 0), (.slice (some ⟨H1, 0, none⟩) 1 1), (.slice none 0 0)⟩, .bool true]) (by simp [results, Try.results5, go_sem, y0, y1, y2, y3, y4, y5, y6, y7, y8, bootU, Un.v, ic]) rfl HP.out

theorem spost_no {L : List (List Q)} {w W : World} (h : progsB L = false) (hb : Below w.heap.size w W) : SPost L w (.returned (.tuple #[zeroU.v nilV, .bool false])) W := by
  obtain ⟨s, b, h1, h2, _, _, h5⟩ := post_no h hb
  exact ⟨s, b, h1, h2, h5⟩
set_option maxHeartbeats 2000000 in
theorem spec_no (v : Value) (L : List (List Q)) (bs : List Nat) (w : World) (hw : wt L ≤ 1048576) (h : Progs w v L bs) (hno : progsB L = false) :
    Calls Try.prog 5 #[v] w fun e w' => SPost L w e w' := by
  have hb0 : Below w.heap.size w (w.alloc (.cells #[.int .i64 0, .int .i64 0, .slice none 0 0, .slice none 0 0, .slice none 0 0, .slice none 0 0, .slice none 0 0, .slice none 0 0, .slice none 0 0] 31)) := (Below.refl _ w).alloc (Nat.le_refl _) _
  have H := hd (l6_any v L bs _ hw (h.below good_prog hb0))
  rw [hno] at H
  have HN := hd (fun W hb => spost_no (L := L) (w := w) (W := W) hno hb)
  obtain ⟨W0, hW0⟩ : ∃ W0, w.alloc (.cells #[.int .i64 0, .int .i64 0, .slice none 0 0, .slice none 0 0, .slice none 0 0, .slice none 0 0, .slice none 0 0, .slice none 0 0, .slice none 0 0] 31) = W0 := ⟨_, rfl⟩
  obtain ⟨a, c, rfl⟩ := h.slice
  have hB : W0.heap[w.heap.size]? = some (.cells #[.int .i64 0, .int .i64 0, .slice none 0 0, .slice none 0 0, .slice none 0 0, .slice none 0 0, .slice none 0 0, .slice none 0 0, .slice none 0 0] 31 (0, 0)) := by rw [← hW0]; exact heap_alloc_new w _
  rw [hW0] at H hb0
  replace hW0 := hd hW0
  clear h hno
  go_enter Try.func5, Try.ntmps5
  go_wp2_with (go_at_call 14; fail)
  rw [hW0.out]
  refine H.out.mono ?_
  rintro e w1 ⟨rfl, hb1⟩
  replace hB := (hb1.block _ (Array.getElem?_eq_some_iff.1 hB).1).trans hB
  replace hb0 := hb0.trans (hb1.mono hb0.size)
  clear hb1 H hW0
  have c : ∀ j, _ := fun j => cell_of_row w1 _ j _ _ (0, 0) hB
  have c0 := c 0
  have f0 := frozen_of_row w1 _ 0 _ _ hB
  have c1 := c 1
  have f1 := frozen_of_row w1 _ 1 _ _ hB
  have c2 := c 2
  have f2 := frozen_of_row w1 _ 2 _ _ hB
  have c3 := c 3
  have f3 := frozen_of_row w1 _ 3 _ _ hB
  have c4 := c 4
  have f4 := frozen_of_row w1 _ 4 _ _ hB
  have c5 := c 5
  have f5 := frozen_of_row w1 _ 5 _ _ hB
  have c6 := c 6
  have f6 := frozen_of_row w1 _ 6 _ _ hB
  have c7 := c 7
  have f7 := frozen_of_row w1 _ 7 _ _ hB
  have c8 := c 8
  have f8 := frozen_of_row w1 _ 8 _ _ hB
  simp only [List.getElem?_toArray, List.getElem?_cons_zero, List.getElem?_cons_succ] at c0 c1 c2 c3 c4 c5 c6 c7 c8
  have HZ := hd (nine_cells (.int .i64 0) (.int .i64 0) (.slice none 0 0) (.slice none 0 0) (.slice none 0 0) (.slice none 0 0) (.slice none 0 0) (.slice none 0 0) (.slice none 0 0) hB)
  have HP := hd (HN.out _ (hb0.trans ((nine_keep w1 w.heap.size (.int .i64 0) (.int .i64 0) (.slice none 0 0) (.slice none 0 0) (.slice none 0 0) (.slice none 0 0) (.slice none 0 0) (.slice none 0 0) (.slice none 0 0)).below (by simp) hb0.size)))
  clear c hB HN
  go_wp2
  obtain ⟨z0, z1, z2, z3, z4, z5, z6, z7, z8⟩ := HZ.out
  unfold nine at z0 z1 z2 z3 z4 z5 z6 z7 z8
  exact bodyPost_ret (v := .tuple #[zeroU.v nilV, .bool false]) (by simp [results, Try.results5, go_sem, z0, z1, z2, z3, z4, z5, z6, z7, z8, zeroU, nilV, Un.v, ic]) rfl HP.out

theorem spec_any (v : Value) (L : List (List Q)) (bs : List Nat) (w : World) (hw : wt L ≤ 1048576) (h : Progs w v L bs) :
    Calls Try.prog 5 #[v] w fun e w' => SPost L w e w' := by
  cases hp : progsB L
  · exact spec_no v L bs w hw h hp
  · rcases h.cases with ⟨rfl, rfl, rfl⟩ | ⟨g, c, rfl, hg, _⟩
    · exact absurd hp (by decide)
    · exact spec_yes g c L bs w hw h hp

end Go.Proofs.Ytldbdmafodcmnaa.BootS
