/- Chapter 15, spec's side: a heap of one's own (l15Copy). Condition: none. -/
import Derived.Test.YtpgigoddjidfdaaBuS
namespace Go.Proofs.Ytpgigoddjidfdaa.BuC
open Go.RowKit Go.Deep Num RowC TyA TyM TyB TyR TyF TyP TyT BuS
set_option maxRecDepth 100000
set_option linter.unusedVariables false
set_option linter.unusedSimpArgs false

theorem Und.start2 (w : World) : Und w (.slice (some ⟨w.heap.size, 0, none⟩) 0 0) [] (w.drew.alloc (.cells #[] 3)) :=
  ⟨(Und.start w).1, ((Below.refl _ w).drew).alloc (Nat.le_refl _) _⟩
theorem _root_.Go.Proofs.Ytpgigoddjidfdaa.BuS.Und.one {w wr : World} {v : Value} {l : List Int} (h : Und w v l wr) : v.oneCell' = true := by
  obtain ⟨a, c, rfl⟩ := own_slice h.1
  rfl
theorem cellv (X : World) (v : Value) : ∀ j u, [v][j]? = some u → (X.alloc (.cells #[v] 35)).cell? ⟨X.heap.size, 0 + j, none⟩ = some u := by
  intro j u hj
  have := cell_box X [v] 35 X.heap.size rfl j u hj
  rw [Nat.zero_add]; exact this
/-- 'append([]int{}, l...)', whatever l is. -/
theorem step_copyI {W w : World} {ops : Array Oper} {o : Oper} {a : Act} {K : Act → World → Prop} {Q' : Exit → Act → World → Prop} {E : Prop} (hgd : o.guard = none) (s x : Operand)
    (ho : o.op = .call { callee := .builtin .append, args := #[s, x], argTypes := #[35, 35] }) (v : Value) (hs : a.eval s = v) (hU : Und W v [] w) (xv : Value) (l : List Int) (b : List Nat) (hx : a.eval x = xv) (hL : OIntS w xv l b) (hlen : l.length ≤ 2500000)
    (h : ∀ v' w', Und W v' l w' → K (a.put o.dst v') w') : if Region.wanted o (yielded ops a.tmps) = true then Oper.wp Try.prog o a w K Q' else E := by
  rcases so_cases hL with ⟨rfl, rfl, rfl⟩ | ⟨g, cap, rfl, _, _, _, hc⟩
  · have hw : Region.wanted o (yielded ops a.tmps) = true := by simp [Region.wanted, hgd]
    rw [if_pos hw]
    obtain ⟨i0, hi, hz0, hz1, hz2⟩ := info_parts info_IntS
    have hr := run_append_owned_none (P := Try.prog) w W.heap.size 35 o.type 3 i0 1 Try.underlying35 hi v 0 [] hU.1
    unfold Oper.wp execOp
    simp only [ho, resolve, invoke, builtin, Sem.run_bind, Sem.run_pure, Result.andThen_ok, List.map_toArray, List.map_cons, List.map_nil, hs, hx, hr]
    exact h v w hU
  · refine step_append_so (c := cI) Try.underlying35 info_IntS rfl (by decide) (fun _ => rfl) hgd s x ho W.heap.size v [] 0 rfl hs hU.1 g 0 l l.length cap rfl hx (fun j y hy => by rw [Nat.zero_add]; exact hc j y hy) (by simp; omega) hU.2.size ?_
    intro v' w' h1 h2 h3
    exact h v' w' ⟨h1, hU.2.trans h2⟩
theorem _root_.Go.Proofs.Ytpgigoddjidfdaa.RowC.Row.own_sub {α : Type} {e k : Nat} {P : World → List Value → α → List Nat → Prop} {w : World} {v : Value} {l : List α} {bs : List Nat} (h : Row e k P w v l bs) : ∀ y ∈ blk v, y ∈ bs := by
  obtain ⟨xs, bss, _, _, rfl, _⟩ := h
  exact fun y hy => List.mem_append_left _ hy
def NewB (L : List (List Int)) (w : World) (e : Ending) (w' : World) : Prop := ∃ u d, e = .returned (.agg #[u]) ∧ OIntSS w' u L d ∧ d.Nodup ∧ (∀ y ∈ d, w.heap.size ≤ y) ∧ Below w.heap.size w w'
set_option maxHeartbeats 8000000 in
theorem l15Copy_any (v : Value) (L : List (List Int)) (b : List Nat) (w : World) (h : OIntSS w v L b) (hL : wS z_IntS L ≤ 1048576) :
    Calls Try.prog 50 #[.agg #[v]] w fun e w' => NewB L w e w' := by
  have HRW0 := hd h
  obtain ⟨va, c, rfl⟩ := h.slice
  clear h
  have hLl : L.length ≤ 1048576 := by unfold wS at hL; omega
  have HLL := hd hL
  clear hL
  go_enter Try.func50, Try.ntmps50
  go_wp2_with fail
  obtain ⟨W1, hW1⟩ : ∃ W1, w.alloc (.cells #[.slice va L.length c] 26) = W1 := ⟨_, rfl⟩
  have hW1s : W1.heap.size = w.heap.size + 1 := by rw [← hW1]; simp
  have hbW : Below w.heap.size w W1 := by rw [← hW1]; exact (Below.refl _ _).alloc (Nat.le_refl _) _
  have HA0 := hd (show W1.cell? ⟨w.heap.size, 0, none⟩ = some (.slice va L.length c) from by rw [← hW1]; exact cell_box w [.slice va L.length c] 26 w.heap.size rfl 0 _ rfl)
  have HX0 := hd (fun (X : World) (hX : Below W1.heap.size W1 X) => (hX.cell (p := ⟨w.heap.size, 0, none⟩) (by simp; omega)).trans HA0.out)
  rw [hW1]
  obtain ⟨G, hG⟩ : ∃ G, w.heap.size + 1 + 1 = G := ⟨_, rfl⟩
  have hV0 : Below W1.heap.size W1 ((W1.alloc (.cells #[.slice none 0 0] 26)).alloc (.cells #[.slice none 0 0] 26)) := ((Below.refl _ _).alloc (Nat.le_refl _) _).alloc (by simp) _
  have hR0 : ((W1.alloc (.cells #[.slice none 0 0] 26)).alloc (.cells #[.slice none 0 0] 26)).heap[w.heap.size + 1]? = some (.cells #[.slice none 0 0] 26 (0, 0)) := heap_up (heap_at _ _ _ (by omega)) _
  have hG0 : ((W1.alloc (.cells #[.slice none 0 0] 26)).alloc (.cells #[.slice none 0 0] 26)).heap[G]? = some (.cells #[.slice none 0 0] 26 (0, 0)) := heap_at _ _ _ (by simp; omega)
  obtain ⟨V, hV⟩ : ∃ V, (W1.alloc (.cells #[.slice none 0 0] 26)).alloc (.cells #[.slice none 0 0] 26) = V := ⟨_, rfl⟩
  rw [hV] at hV0 hR0 hG0 ⊢
  rw [hG]
  have hGe1 : G + 1 ≤ W1.heap.size + 2 := by omega
  have hGe2 : W1.heap.size + 1 ≤ G := by omega
  have hGe3 : w.heap.size + 2 ≤ G := by omega
  have HGS := hd hG
  have HV0 := hd hV0
  have HR0 := hd hR0
  have HG0 := hd hG0
  have HBW := hd hbW
  replace hW1s := hW1s
  clear hV0 hR0 hG0 hV hG hW1 hbW
  go_loopw [4] (fun i wr => ∃ (k : Nat) (oa : Option Addr) (oc : Nat) (bs : List Nat) (s : List (List Int)), k ≤ L.length ∧ i = .int .i64 k ∧ s.length ≤ k ∧ Hid (s = L.take k) ∧ Below W1.heap.size W1 wr ∧ Hid (wr.heap[w.heap.size + 1]? = some (.cells #[.slice none 0 0] 26 (0, 0))) ∧ Hid (wr.heap[G]? = some (.cells #[.slice oa s.length oc] 26 (0, 0))) ∧
    Hid (OIntSS wr (.slice oa s.length oc) s bs) ∧ Hid bs.Nodup ∧ Hid (∀ y ∈ bs, W1.heap.size + 2 ≤ y)) (fun i _ => L.length - (intOf i).toNat)
  case atStart => exact ⟨0, none, 0, [], [], Nat.zero_le _, rfl, by simp, hd rfl, HV0.out, HR0, HG0, hd (Row.nil _ _ _ _), hd (by simp), hd (by simp)⟩
  case round =>
    clear HV0 HR0 HG0
    obtain ⟨k, oa, oc, bs, s, hk, rfl, hsl, HS, hbel, HRES, HG, HROW, HND, HFR⟩ := hrel
    have c0 := HX0.out wr hbel
    by_cases hlt : k < L.length
    · obtain ⟨y, hy⟩ : ∃ y, L[k]? = some y := ⟨L[k], by simp [hlt]⟩
      have hyl : y.length ≤ 1048576 := by have := sumW_mem z_IntS L k y hy; have := HLL.out; unfold wS at this; unfold z_IntS at *; omega
      obtain ⟨gb, u, by_, rfl, hgb, hcu, hou⟩ : ∃ gb u by_, va = some ⟨gb, 0, none⟩ ∧ gb < w.heap.size ∧ w.cell? ⟨gb, k, none⟩ = some u ∧ OIntS w u y by_ := by
        rcases HRW0.out.cases with ⟨hh, h0, _⟩ | ⟨gb, cap, hh, hg, _⟩
        · rw [h0] at hlt; simp at hlt
        · simp at hh
          obtain ⟨rfl, rfl⟩ := hh
          obtain ⟨u, b1, hcu, hou, _⟩ := Row.elem HRW0.out hy
          exact ⟨gb, u, b1, rfl, hg, hcu, hou⟩
      have HEL := hd (fun (X : World) (hX : Below W1.heap.size W1 X) => gv_IntS.below (gv_IntS.below hou HBW.out) hX)
      have HSX := hd (show ∀ X, Below W1.heap.size W1 X → ((fun X => Below W1.heap.size W1 X ∧ X.cell? ⟨w.heap.size, 0, none⟩ = some (.slice (some ⟨gb, 0, none⟩) L.length c) ∧ X.cell? ⟨gb, k, none⟩ = some u) X) from fun X hX => ⟨hX, HX0.out X hX, (hX.cell (p := ⟨gb, k, none⟩) (by simp; omega)).trans ((HBW.out.cell (p := ⟨gb, k, none⟩) hgb).trans hcu)⟩)
      have hk0 : (0 : Int) ≤ (k : Int) := by omega
      have hk1 : (k : Int) < (L.length : Int) := by omega
      have hGlt : G < wr.heap.size := (Array.getElem?_eq_some_iff.1 HG.out).1
      have hG1 : wr.cell? ⟨G, 0, none⟩ = some (.slice oa s.length oc) := by rw [cell_of_row wr G 0 _ _ (0, 0) HG.out]; rfl
      have hG2 : wr.drew.cell? ⟨G, 0, none⟩ = some (.slice oa s.length oc) := hG1
      have hG3 : (wr.alloc (.cells #[] 3)).cell? ⟨G, 0, none⟩ = some (.slice oa s.length oc) := (((Below.refl _ wr).alloc (Nat.le_refl _) _).cell (p := ⟨G, 0, none⟩) (by simp; omega)).trans hG1
      have HY := hd hy
      clear hcu hou hy
      go_wp2_with fail
      refine wp_region_held_drew (S := (fun X => Below W1.heap.size W1 X ∧ X.cell? ⟨w.heap.size, 0, none⟩ = some (.slice (some ⟨gb, 0, none⟩) L.length c) ∧ X.cell? ⟨gb, k, none⟩ = some u)) (by kernel_rfl) ?_ (fun hHeld => ?_)
      · ((try dsimp only); refine HSX.out _ ?_; repeat' first | with_reducible assumption | with_reducible exact Below.refl _ _ | with_reducible refine balloc ?_ _ | with_reducible refine bset ?_ (by first | omega | (simp <;> omega)) _ | with_reducible apply Below.drew)
      refine wpAnyH_take (i := 0) (oi := ⟨_, _, _, _, _, _⟩) (v := ?_) rfl (by kernel_rfl) (by kernel_rfl) (by kernel_rfl) (fun _ _ _ h => h) (Or.inl ⟨by rfl, ?_⟩) (by assumption) ?_
      rotate_left; · (intro w hSw; (try dsimp only at hSw); go_simp; try with_reducible rfl)
      try simp only [Act.put, List.setIfInBounds_toArray, List.set_cons_zero, List.set_cons_succ]
      refine wpAnyH_take (i := 3) (oi := ⟨_, _, _, _, _, _⟩) (v := ?_) rfl (by kernel_rfl) (by kernel_rfl) (by kernel_rfl) (fun _ _ _ h => h) (Or.inl ⟨by rfl, ?_⟩) (by assumption) ?_
      rotate_left; · (intro w hSw; (try dsimp only at hSw); go_simp; try with_reducible rfl)
      try simp only [Act.put, List.setIfInBounds_toArray, List.set_cons_zero, List.set_cons_succ]
      refine wpAnyH_take (i := 4) (oi := ⟨_, _, _, _, _, _⟩) (v := ?_) rfl (by kernel_rfl) (by kernel_rfl) (by kernel_rfl) (fun _ _ _ h => h) (Or.inl ⟨by rfl, ?_⟩) (by assumption) ?_
      rotate_left; · (intro w hSw; (try dsimp only at hSw); go_simp; try with_reducible rfl)
      try simp only [Act.put, List.setIfInBounds_toArray, List.set_cons_zero, List.set_cons_succ]
      refine wpAnyH_take (i := 5) (oi := ⟨_, _, _, _, _, _⟩) (v := ?_) rfl (by kernel_rfl) (by kernel_rfl) (by kernel_rfl) (fun _ _ _ h => h) (Or.inl ⟨by rfl, ?_⟩) (by assumption) ?_
      rotate_left; · (intro w hSw; (try dsimp only at hSw); go_simp; try with_reducible rfl)
      try simp only [Act.put, List.setIfInBounds_toArray, List.set_cons_zero, List.set_cons_succ]
      refine wpAnyH_take (i := 6) (oi := ⟨_, _, _, _, _, _⟩) (v := ?_) rfl (by kernel_rfl) (by kernel_rfl) (by kernel_rfl) (fun _ _ _ h => h) (Or.inl ⟨by rfl, ?_⟩) (by assumption) ?_
      rotate_left; · (intro w hSw; (try dsimp only at hSw); go_simp; try with_reducible rfl)
      try simp only [Act.put, List.setIfInBounds_toArray, List.set_cons_zero, List.set_cons_succ]
      refine wpAnyH_take (i := 7) (oi := ⟨_, _, _, _, _, _⟩) (v := ?_) rfl (by kernel_rfl) (by kernel_rfl) (by kernel_rfl) (fun _ _ _ h => h) (Or.inl ⟨by rfl, ?_⟩) (by assumption) ?_
      rotate_left; · (intro w hSw; (try dsimp only at hSw); go_simp; try with_reducible rfl)
      try simp only [Act.put, List.setIfInBounds_toArray, List.set_cons_zero, List.set_cons_succ]
      refine wpAnyH_ready (rs := [1, 2]) (by kernel_rfl) (by simp) ?_
      refine AllReadyH.cons (o := ⟨_, _, _, _, _, _⟩) rfl (fun K hK => ?_) ?_
      · (go_simp)
        refine hK.out _ _ ?_ (fun hHeld2 => ?_)
        · ((try dsimp only); refine HSX.out _ ?_; repeat' first | with_reducible assumption | with_reducible exact Below.refl _ _ | with_reducible refine balloc ?_ _ | with_reducible refine bset ?_ (by first | omega | (simp <;> omega)) _ | with_reducible apply Below.drew)
        clear hK K hHeld
        try simp only [Act.put, List.setIfInBounds_toArray, List.set_cons_zero, List.set_cons_succ]
        have hHeld := hHeld2; clear hHeld2
        refine wpAnyH_ready (rs := [2]) (by kernel_rfl) (by simp) ?_
        refine AllReadyH.cons (o := ⟨_, _, _, _, _, _⟩) rfl (fun K hK => ?_) AllReadyH.nil
        (go_simp)
        refine hK.out _ _ ?_ (fun hHeld2 => ?_)
        · ((try dsimp only); refine HSX.out _ ?_; repeat' first | with_reducible assumption | with_reducible exact Below.refl _ _ | with_reducible refine balloc ?_ _ | with_reducible refine bset ?_ (by first | omega | (simp <;> omega)) _ | with_reducible apply Below.drew)
        clear hK K hHeld
        try simp only [Act.put, List.setIfInBounds_toArray, List.set_cons_zero, List.set_cons_succ]
        have hHeld := hHeld2; clear hHeld2
        refine wpAnyH_ready (rs := [8]) (by kernel_rfl) (by simp) ?_
        refine AllReadyH.cons (o := ⟨_, _, _, _, _, _⟩) rfl (fun K hK => ?_) AllReadyH.nil
        (refine step_copyI rfl _ _ rfl (.slice (some ⟨wr.heap.size, 0, none⟩) 0 0) rfl (Und.start2 wr) u y by_ rfl (HEL.out _ ‹Below W1.heap.size W1 _ ∧ _›.1) (by omega) ?_; intro v5 w5 hU5; obtain ⟨a5, c5, rfl⟩ := own_slice hU5.1; have HU5 := hd hU5; have m3 : w5.cell? ⟨G, 0, none⟩ = some (.slice oa s.length oc) := (hU5.2.cell (p := ⟨G, 0, none⟩) (by simp; omega)).trans hG1; have m4 : (w5.alloc (.cells #[.slice a5 y.length c5] 35)).cell? ⟨G, 0, none⟩ = some (.slice oa s.length oc) := ((hU5.2.alloc hU5.2.size _).cell (p := ⟨G, 0, none⟩) (by simp; omega)).trans hG1; have hb5 : Below W1.heap.size W1 w5 := hbel.trans (hU5.2.mono hbel.size); clear hU5)
        refine hK.out _ _ ?_ (fun hHeld2 => ?_)
        · ((try dsimp only); refine HSX.out _ ?_; repeat' first | with_reducible assumption | with_reducible exact Below.refl _ _ | with_reducible refine balloc ?_ _ | with_reducible refine bset ?_ (by first | omega | (simp <;> omega)) _ | with_reducible apply Below.drew)
        clear hK K hHeld
        try simp only [Act.put, List.setIfInBounds_toArray, List.set_cons_zero, List.set_cons_succ]
        have hHeld := hHeld2; clear hHeld2
        refine wpAnyH_ready (rs := [9]) (by kernel_rfl) (by simp) ?_
        refine AllReadyH.cons (o := ⟨_, _, _, _, _, _⟩) rfl (fun K hK => ?_) AllReadyH.nil
        (go_simp)
        refine hK.out _ _ ?_ (fun hHeld2 => ?_)
        · ((try dsimp only); refine HSX.out _ ?_; repeat' first | with_reducible assumption | with_reducible exact Below.refl _ _ | with_reducible refine balloc ?_ _ | with_reducible refine bset ?_ (by first | omega | (simp <;> omega)) _ | with_reducible apply Below.drew)
        clear hK K hHeld
        try simp only [Act.put, List.setIfInBounds_toArray, List.set_cons_zero, List.set_cons_succ]
        have hHeld := hHeld2; clear hHeld2
        refine wpAnyH_ready (rs := [10]) (by kernel_rfl) (by simp) ?_
        refine AllReadyH.cons (o := ⟨_, _, _, _, _, _⟩) rfl (fun K hK => ?_) AllReadyH.nil
        (refine step_append_row (P := PE OIntS) (good_pe gv_IntS) Try.underlying24 info_IntSS rfl (by decide) (by decide) rfl _ _ rfl (.slice oa s.length oc) s bs rfl (HROW.out.keep (good_pe gv_IntS) (Keep.of_below [] (HU5.out.2.alloc HU5.out.2.size _)) (by simp)) HND.out _ 0 1 [.slice a5 y.length c5] y (blk (.slice a5 y.length c5)) rfl (cellv w5 (.slice a5 y.length c5)) rfl (by intro z hz; simp at hz; subst hz; exact HU5.out.one) ⟨.slice a5 y.length c5, rfl, ⟨own_zero (HU5.out.1.alloc _), rfl⟩⟩ (blk_nodup _) (by intro q hq hqb; have h1 := (own_lt HU5.out.1 q hq).1; have h2 := HROW.out.lt (good_pe gv_IntS) q hqb; omega) (by omega) ?_; intro v6 w6 bs6 hr6 hn6 hf6 hk6 hv6; have hk7 : Keep (blk (.slice oa s.length oc)) wr w6 := (Keep.of_below [] (HU5.out.2.alloc HU5.out.2.size _)).mono (by simp) |>.trans hk6; have hG := HG.out; have hBK : ∀ q ∈ blk (.slice oa s.length oc), W1.heap.size + 2 ≤ q := (fun q hq => HFR.out q (HROW.out.own_sub q hq)); have hm1 : w6.heap[G]? = some (.cells #[.slice oa s.length oc] 26 (0, 0)) := (hk7.block _ (Array.getElem?_eq_some_iff.1 hG).1 (by intro hq; have := hBK _ hq; omega)).trans hG; have m5 : w6.cell? ⟨G, 0, none⟩ = some (.slice oa s.length oc) := (by rw [cell_of_row w6 _ 0 _ _ (0, 0) hm1]; rfl); have m6 := frozen_of_row w6 _ 0 _ _ hm1; have hb6 : Below W1.heap.size W1 w6 := hbel.trans (hk7.below (by intro q hq; have := hBK q hq; omega) hbel.size); obtain ⟨oa6, oc6, rfl⟩ := hr6.slice; have HR6 := hd hr6; have HN6 := hd hn6; have HF6 := hd hf6; have HK7 := hd hk7; have HM1 := hd hm1; have HV6 := hd hv6; clear hr6 hn6 hf6 hk6 hk7 hG hm1 hv6)
        refine hK.out _ _ ?_ (fun hHeld2 => ?_)
        · ((try dsimp only); refine HSX.out _ ?_; repeat' first | with_reducible assumption | with_reducible exact Below.refl _ _ | with_reducible refine balloc ?_ _ | with_reducible refine bset ?_ (by first | omega | (simp <;> omega)) _ | with_reducible apply Below.drew)
        clear hK K hHeld
        try simp only [Act.put, List.setIfInBounds_toArray, List.set_cons_zero, List.set_cons_succ]
        have hHeld := hHeld2; clear hHeld2
        refine wpAnyH_take (i := 11) (oi := ⟨_, _, _, _, _, _⟩) (v := ?_) rfl (by kernel_rfl) (by kernel_rfl) (by kernel_rfl) (fun _ _ _ h => h) (Or.inl ⟨by rfl, ?_⟩) (by assumption) ?_
        rotate_left; · (intro w hSw; (try dsimp only at hSw); go_simp; try with_reducible rfl)
        try simp only [Act.put, List.setIfInBounds_toArray, List.set_cons_zero, List.set_cons_succ]
        refine wpAnyH_ready (rs := [12]) (by kernel_rfl) (by simp) ?_
        refine AllReadyH.cons (o := ⟨_, _, _, _, _, _⟩) rfl (fun K hK => ?_) AllReadyH.nil
        (go_simp)
        refine hK.out _ _ ?_ (fun hHeld2 => ?_)
        · ((try dsimp only); refine HSX.out _ ?_; repeat' first | with_reducible assumption | with_reducible exact Below.refl _ _ | with_reducible refine balloc ?_ _ | with_reducible refine bset ?_ (by first | omega | (simp <;> omega)) _ | with_reducible apply Below.drew)
        clear hK K hHeld
        try simp only [Act.put, List.setIfInBounds_toArray, List.set_cons_zero, List.set_cons_succ]
        have hHeld := hHeld2; clear hHeld2
        refine wpAnyH_done (by kernel_rfl) ?_ _
        go_wp2_with fail
        have hkS := Keep.set w6 G 0 (.slice oa6 (s.length + 1) oc6) [G] (by simp)
        have hGbs : ∀ q ∈ bs6, W1.heap.size + 2 ≤ q := fun q hq => by
          rcases HF6.out q hq with h1 | h1 | h1
          · exact HFR.out q h1
          · have := (own_lt HU5.out.1 q h1).1; have h2 := hGlt; omega
          · have := (HU5.out.2.alloc HU5.out.2.size (.cells #[.slice a5 y.length c5] 35)).size; omega
        have hrs := (HRES.out)
        have hR1 : (w6.setCell ⟨G, 0, none⟩ (.slice oa6 (s.length + 1) oc6)).heap[w.heap.size + 1]? = some (.cells #[.slice none 0 0] 26 (0, 0)) := (hkS.block _ (by have := HK7.out.size; omega) (by simp; omega)).trans ((HK7.out.block _ (by omega) (by intro hq; have h1 := HROW.out.own_sub _ hq; have := HFR.out _ h1; omega)).trans hrs)
        have hG5 := heap_setCell_same w6 G 0 _ _ (.slice oa6 (s.length + 1) oc6) HM1.out
        have hR5 := HR6.out.keep (good_pe gv_IntS) hkS (fun q hq hqg => by have := hGbs q hq; simp at hqg; omega)
        have hlen : (s ++ [y]).length = s.length + 1 := by simp
        exact ⟨⟨k + 1, oa6, oc6, bs6, s ++ [y], by omega, by go_num, by rw [hlen]; omega, hd (by rw [HS.out]; obtain ⟨h1, h2⟩ := List.getElem?_eq_some_iff.1 HY.out; rw [List.take_succ_eq_append_getElem h1, h2]), hHeld.1, hd hR1, hd (by rw [hlen]; exact hG5), hd (by rw [hlen] at hR5 ⊢; exact hR5), HN6, hd hGbs⟩, by simp [intOf]; omega⟩
      refine AllReadyH.cons (o := ⟨_, _, _, _, _, _⟩) rfl (fun K hK => ?_) ?_
      · (go_simp)
        refine hK.out _ _ ?_ (fun hHeld2 => ?_)
        · ((try dsimp only); refine HSX.out _ ?_; repeat' first | with_reducible assumption | with_reducible exact Below.refl _ _ | with_reducible refine balloc ?_ _ | with_reducible refine bset ?_ (by first | omega | (simp <;> omega)) _ | with_reducible apply Below.drew)
        clear hK K hHeld
        try simp only [Act.put, List.setIfInBounds_toArray, List.set_cons_zero, List.set_cons_succ]
        have hHeld := hHeld2; clear hHeld2
        refine wpAnyH_ready (rs := [1, 8]) (by kernel_rfl) (by simp) ?_
        refine AllReadyH.cons (o := ⟨_, _, _, _, _, _⟩) rfl (fun K hK => ?_) ?_
        · (go_simp)
          refine hK.out _ _ ?_ (fun hHeld2 => ?_)
          · ((try dsimp only); refine HSX.out _ ?_; repeat' first | with_reducible assumption | with_reducible exact Below.refl _ _ | with_reducible refine balloc ?_ _ | with_reducible refine bset ?_ (by first | omega | (simp <;> omega)) _ | with_reducible apply Below.drew)
          clear hK K hHeld
          try simp only [Act.put, List.setIfInBounds_toArray, List.set_cons_zero, List.set_cons_succ]
          have hHeld := hHeld2; clear hHeld2
          refine wpAnyH_ready (rs := [8]) (by kernel_rfl) (by simp) ?_
          refine AllReadyH.cons (o := ⟨_, _, _, _, _, _⟩) rfl (fun K hK => ?_) AllReadyH.nil
          (refine step_copyI rfl _ _ rfl (.slice (some ⟨wr.heap.size, 0, none⟩) 0 0) rfl (Und.start2 wr) u y by_ rfl (HEL.out _ ‹Below W1.heap.size W1 _ ∧ _›.1) (by omega) ?_; intro v5 w5 hU5; obtain ⟨a5, c5, rfl⟩ := own_slice hU5.1; have HU5 := hd hU5; have m3 : w5.cell? ⟨G, 0, none⟩ = some (.slice oa s.length oc) := (hU5.2.cell (p := ⟨G, 0, none⟩) (by simp; omega)).trans hG1; have m4 : (w5.alloc (.cells #[.slice a5 y.length c5] 35)).cell? ⟨G, 0, none⟩ = some (.slice oa s.length oc) := ((hU5.2.alloc hU5.2.size _).cell (p := ⟨G, 0, none⟩) (by simp; omega)).trans hG1; have hb5 : Below W1.heap.size W1 w5 := hbel.trans (hU5.2.mono hbel.size); clear hU5)
          refine hK.out _ _ ?_ (fun hHeld2 => ?_)
          · ((try dsimp only); refine HSX.out _ ?_; repeat' first | with_reducible assumption | with_reducible exact Below.refl _ _ | with_reducible refine balloc ?_ _ | with_reducible refine bset ?_ (by first | omega | (simp <;> omega)) _ | with_reducible apply Below.drew)
          clear hK K hHeld
          try simp only [Act.put, List.setIfInBounds_toArray, List.set_cons_zero, List.set_cons_succ]
          have hHeld := hHeld2; clear hHeld2
          refine wpAnyH_ready (rs := [9]) (by kernel_rfl) (by simp) ?_
          refine AllReadyH.cons (o := ⟨_, _, _, _, _, _⟩) rfl (fun K hK => ?_) AllReadyH.nil
          (go_simp)
          refine hK.out _ _ ?_ (fun hHeld2 => ?_)
          · ((try dsimp only); refine HSX.out _ ?_; repeat' first | with_reducible assumption | with_reducible exact Below.refl _ _ | with_reducible refine balloc ?_ _ | with_reducible refine bset ?_ (by first | omega | (simp <;> omega)) _ | with_reducible apply Below.drew)
          clear hK K hHeld
          try simp only [Act.put, List.setIfInBounds_toArray, List.set_cons_zero, List.set_cons_succ]
          have hHeld := hHeld2; clear hHeld2
          refine wpAnyH_ready (rs := [10]) (by kernel_rfl) (by simp) ?_
          refine AllReadyH.cons (o := ⟨_, _, _, _, _, _⟩) rfl (fun K hK => ?_) AllReadyH.nil
          (refine step_append_row (P := PE OIntS) (good_pe gv_IntS) Try.underlying24 info_IntSS rfl (by decide) (by decide) rfl _ _ rfl (.slice oa s.length oc) s bs rfl (HROW.out.keep (good_pe gv_IntS) (Keep.of_below [] (HU5.out.2.alloc HU5.out.2.size _)) (by simp)) HND.out _ 0 1 [.slice a5 y.length c5] y (blk (.slice a5 y.length c5)) rfl (cellv w5 (.slice a5 y.length c5)) rfl (by intro z hz; simp at hz; subst hz; exact HU5.out.one) ⟨.slice a5 y.length c5, rfl, ⟨own_zero (HU5.out.1.alloc _), rfl⟩⟩ (blk_nodup _) (by intro q hq hqb; have h1 := (own_lt HU5.out.1 q hq).1; have h2 := HROW.out.lt (good_pe gv_IntS) q hqb; omega) (by omega) ?_; intro v6 w6 bs6 hr6 hn6 hf6 hk6 hv6; have hk7 : Keep (blk (.slice oa s.length oc)) wr w6 := (Keep.of_below [] (HU5.out.2.alloc HU5.out.2.size _)).mono (by simp) |>.trans hk6; have hG := HG.out; have hBK : ∀ q ∈ blk (.slice oa s.length oc), W1.heap.size + 2 ≤ q := (fun q hq => HFR.out q (HROW.out.own_sub q hq)); have hm1 : w6.heap[G]? = some (.cells #[.slice oa s.length oc] 26 (0, 0)) := (hk7.block _ (Array.getElem?_eq_some_iff.1 hG).1 (by intro hq; have := hBK _ hq; omega)).trans hG; have m5 : w6.cell? ⟨G, 0, none⟩ = some (.slice oa s.length oc) := (by rw [cell_of_row w6 _ 0 _ _ (0, 0) hm1]; rfl); have m6 := frozen_of_row w6 _ 0 _ _ hm1; have hb6 : Below W1.heap.size W1 w6 := hbel.trans (hk7.below (by intro q hq; have := hBK q hq; omega) hbel.size); obtain ⟨oa6, oc6, rfl⟩ := hr6.slice; have HR6 := hd hr6; have HN6 := hd hn6; have HF6 := hd hf6; have HK7 := hd hk7; have HM1 := hd hm1; have HV6 := hd hv6; clear hr6 hn6 hf6 hk6 hk7 hG hm1 hv6)
          refine hK.out _ _ ?_ (fun hHeld2 => ?_)
          · ((try dsimp only); refine HSX.out _ ?_; repeat' first | with_reducible assumption | with_reducible exact Below.refl _ _ | with_reducible refine balloc ?_ _ | with_reducible refine bset ?_ (by first | omega | (simp <;> omega)) _ | with_reducible apply Below.drew)
          clear hK K hHeld
          try simp only [Act.put, List.setIfInBounds_toArray, List.set_cons_zero, List.set_cons_succ]
          have hHeld := hHeld2; clear hHeld2
          refine wpAnyH_take (i := 11) (oi := ⟨_, _, _, _, _, _⟩) (v := ?_) rfl (by kernel_rfl) (by kernel_rfl) (by kernel_rfl) (fun _ _ _ h => h) (Or.inl ⟨by rfl, ?_⟩) (by assumption) ?_
          rotate_left; · (intro w hSw; (try dsimp only at hSw); go_simp; try with_reducible rfl)
          try simp only [Act.put, List.setIfInBounds_toArray, List.set_cons_zero, List.set_cons_succ]
          refine wpAnyH_ready (rs := [12]) (by kernel_rfl) (by simp) ?_
          refine AllReadyH.cons (o := ⟨_, _, _, _, _, _⟩) rfl (fun K hK => ?_) AllReadyH.nil
          (go_simp)
          refine hK.out _ _ ?_ (fun hHeld2 => ?_)
          · ((try dsimp only); refine HSX.out _ ?_; repeat' first | with_reducible assumption | with_reducible exact Below.refl _ _ | with_reducible refine balloc ?_ _ | with_reducible refine bset ?_ (by first | omega | (simp <;> omega)) _ | with_reducible apply Below.drew)
          clear hK K hHeld
          try simp only [Act.put, List.setIfInBounds_toArray, List.set_cons_zero, List.set_cons_succ]
          have hHeld := hHeld2; clear hHeld2
          refine wpAnyH_done (by kernel_rfl) ?_ _
          go_wp2_with fail
          have hkS := Keep.set w6 G 0 (.slice oa6 (s.length + 1) oc6) [G] (by simp)
          have hGbs : ∀ q ∈ bs6, W1.heap.size + 2 ≤ q := fun q hq => by
            rcases HF6.out q hq with h1 | h1 | h1
            · exact HFR.out q h1
            · have := (own_lt HU5.out.1 q h1).1; have h2 := hGlt; omega
            · have := (HU5.out.2.alloc HU5.out.2.size (.cells #[.slice a5 y.length c5] 35)).size; omega
          have hrs := (HRES.out)
          have hR1 : (w6.setCell ⟨G, 0, none⟩ (.slice oa6 (s.length + 1) oc6)).heap[w.heap.size + 1]? = some (.cells #[.slice none 0 0] 26 (0, 0)) := (hkS.block _ (by have := HK7.out.size; omega) (by simp; omega)).trans ((HK7.out.block _ (by omega) (by intro hq; have h1 := HROW.out.own_sub _ hq; have := HFR.out _ h1; omega)).trans hrs)
          have hG5 := heap_setCell_same w6 G 0 _ _ (.slice oa6 (s.length + 1) oc6) HM1.out
          have hR5 := HR6.out.keep (good_pe gv_IntS) hkS (fun q hq hqg => by have := hGbs q hq; simp at hqg; omega)
          have hlen : (s ++ [y]).length = s.length + 1 := by simp
          exact ⟨⟨k + 1, oa6, oc6, bs6, s ++ [y], by omega, by go_num, by rw [hlen]; omega, hd (by rw [HS.out]; obtain ⟨h1, h2⟩ := List.getElem?_eq_some_iff.1 HY.out; rw [List.take_succ_eq_append_getElem h1, h2]), hHeld.1, hd hR1, hd (by rw [hlen]; exact hG5), hd (by rw [hlen] at hR5 ⊢; exact hR5), HN6, hd hGbs⟩, by simp [intOf]; omega⟩
        refine AllReadyH.cons (o := ⟨_, _, _, _, _, _⟩) rfl (fun K hK => ?_) ?_
        · (refine step_copyI rfl _ _ rfl (.slice (some ⟨wr.heap.size, 0, none⟩) 0 0) rfl (Und.start2 wr) u y by_ rfl (HEL.out _ ‹Below W1.heap.size W1 _ ∧ _›.1) (by omega) ?_; intro v5 w5 hU5; obtain ⟨a5, c5, rfl⟩ := own_slice hU5.1; have HU5 := hd hU5; have m3 : w5.cell? ⟨G, 0, none⟩ = some (.slice oa s.length oc) := (hU5.2.cell (p := ⟨G, 0, none⟩) (by simp; omega)).trans hG1; have m4 : (w5.alloc (.cells #[.slice a5 y.length c5] 35)).cell? ⟨G, 0, none⟩ = some (.slice oa s.length oc) := ((hU5.2.alloc hU5.2.size _).cell (p := ⟨G, 0, none⟩) (by simp; omega)).trans hG1; have hb5 : Below W1.heap.size W1 w5 := hbel.trans (hU5.2.mono hbel.size); clear hU5)
          refine hK.out _ _ ?_ (fun hHeld2 => ?_)
          · ((try dsimp only); refine HSX.out _ ?_; repeat' first | with_reducible assumption | with_reducible exact Below.refl _ _ | with_reducible refine balloc ?_ _ | with_reducible refine bset ?_ (by first | omega | (simp <;> omega)) _ | with_reducible apply Below.drew)
          clear hK K hHeld
          try simp only [Act.put, List.setIfInBounds_toArray, List.set_cons_zero, List.set_cons_succ]
          have hHeld := hHeld2; clear hHeld2
          refine wpAnyH_ready (rs := [1, 9]) (by kernel_rfl) (by simp) ?_
          refine AllReadyH.cons (o := ⟨_, _, _, _, _, _⟩) rfl (fun K hK => ?_) ?_
          · (go_simp)
            refine hK.out _ _ ?_ (fun hHeld2 => ?_)
            · ((try dsimp only); refine HSX.out _ ?_; repeat' first | with_reducible assumption | with_reducible exact Below.refl _ _ | with_reducible refine balloc ?_ _ | with_reducible refine bset ?_ (by first | omega | (simp <;> omega)) _ | with_reducible apply Below.drew)
            clear hK K hHeld
            try simp only [Act.put, List.setIfInBounds_toArray, List.set_cons_zero, List.set_cons_succ]
            have hHeld := hHeld2; clear hHeld2
            refine wpAnyH_ready (rs := [9]) (by kernel_rfl) (by simp) ?_
            refine AllReadyH.cons (o := ⟨_, _, _, _, _, _⟩) rfl (fun K hK => ?_) AllReadyH.nil
            (go_simp)
            refine hK.out _ _ ?_ (fun hHeld2 => ?_)
            · ((try dsimp only); refine HSX.out _ ?_; repeat' first | with_reducible assumption | with_reducible exact Below.refl _ _ | with_reducible refine balloc ?_ _ | with_reducible refine bset ?_ (by first | omega | (simp <;> omega)) _ | with_reducible apply Below.drew)
            clear hK K hHeld
            try simp only [Act.put, List.setIfInBounds_toArray, List.set_cons_zero, List.set_cons_succ]
            have hHeld := hHeld2; clear hHeld2
            refine wpAnyH_ready (rs := [10]) (by kernel_rfl) (by simp) ?_
            refine AllReadyH.cons (o := ⟨_, _, _, _, _, _⟩) rfl (fun K hK => ?_) AllReadyH.nil
            (refine step_append_row (P := PE OIntS) (good_pe gv_IntS) Try.underlying24 info_IntSS rfl (by decide) (by decide) rfl _ _ rfl (.slice oa s.length oc) s bs rfl (HROW.out.keep (good_pe gv_IntS) (Keep.of_below [] (HU5.out.2.alloc HU5.out.2.size _)) (by simp)) HND.out _ 0 1 [.slice a5 y.length c5] y (blk (.slice a5 y.length c5)) rfl (cellv w5 (.slice a5 y.length c5)) rfl (by intro z hz; simp at hz; subst hz; exact HU5.out.one) ⟨.slice a5 y.length c5, rfl, ⟨own_zero (HU5.out.1.alloc _), rfl⟩⟩ (blk_nodup _) (by intro q hq hqb; have h1 := (own_lt HU5.out.1 q hq).1; have h2 := HROW.out.lt (good_pe gv_IntS) q hqb; omega) (by omega) ?_; intro v6 w6 bs6 hr6 hn6 hf6 hk6 hv6; have hk7 : Keep (blk (.slice oa s.length oc)) wr w6 := (Keep.of_below [] (HU5.out.2.alloc HU5.out.2.size _)).mono (by simp) |>.trans hk6; have hG := HG.out; have hBK : ∀ q ∈ blk (.slice oa s.length oc), W1.heap.size + 2 ≤ q := (fun q hq => HFR.out q (HROW.out.own_sub q hq)); have hm1 : w6.heap[G]? = some (.cells #[.slice oa s.length oc] 26 (0, 0)) := (hk7.block _ (Array.getElem?_eq_some_iff.1 hG).1 (by intro hq; have := hBK _ hq; omega)).trans hG; have m5 : w6.cell? ⟨G, 0, none⟩ = some (.slice oa s.length oc) := (by rw [cell_of_row w6 _ 0 _ _ (0, 0) hm1]; rfl); have m6 := frozen_of_row w6 _ 0 _ _ hm1; have hb6 : Below W1.heap.size W1 w6 := hbel.trans (hk7.below (by intro q hq; have := hBK q hq; omega) hbel.size); obtain ⟨oa6, oc6, rfl⟩ := hr6.slice; have HR6 := hd hr6; have HN6 := hd hn6; have HF6 := hd hf6; have HK7 := hd hk7; have HM1 := hd hm1; have HV6 := hd hv6; clear hr6 hn6 hf6 hk6 hk7 hG hm1 hv6)
            refine hK.out _ _ ?_ (fun hHeld2 => ?_)
            · ((try dsimp only); refine HSX.out _ ?_; repeat' first | with_reducible assumption | with_reducible exact Below.refl _ _ | with_reducible refine balloc ?_ _ | with_reducible refine bset ?_ (by first | omega | (simp <;> omega)) _ | with_reducible apply Below.drew)
            clear hK K hHeld
            try simp only [Act.put, List.setIfInBounds_toArray, List.set_cons_zero, List.set_cons_succ]
            have hHeld := hHeld2; clear hHeld2
            refine wpAnyH_take (i := 11) (oi := ⟨_, _, _, _, _, _⟩) (v := ?_) rfl (by kernel_rfl) (by kernel_rfl) (by kernel_rfl) (fun _ _ _ h => h) (Or.inl ⟨by rfl, ?_⟩) (by assumption) ?_
            rotate_left; · (intro w hSw; (try dsimp only at hSw); go_simp; try with_reducible rfl)
            try simp only [Act.put, List.setIfInBounds_toArray, List.set_cons_zero, List.set_cons_succ]
            refine wpAnyH_ready (rs := [12]) (by kernel_rfl) (by simp) ?_
            refine AllReadyH.cons (o := ⟨_, _, _, _, _, _⟩) rfl (fun K hK => ?_) AllReadyH.nil
            (go_simp)
            refine hK.out _ _ ?_ (fun hHeld2 => ?_)
            · ((try dsimp only); refine HSX.out _ ?_; repeat' first | with_reducible assumption | with_reducible exact Below.refl _ _ | with_reducible refine balloc ?_ _ | with_reducible refine bset ?_ (by first | omega | (simp <;> omega)) _ | with_reducible apply Below.drew)
            clear hK K hHeld
            try simp only [Act.put, List.setIfInBounds_toArray, List.set_cons_zero, List.set_cons_succ]
            have hHeld := hHeld2; clear hHeld2
            refine wpAnyH_done (by kernel_rfl) ?_ _
            go_wp2_with fail
            have hkS := Keep.set w6 G 0 (.slice oa6 (s.length + 1) oc6) [G] (by simp)
            have hGbs : ∀ q ∈ bs6, W1.heap.size + 2 ≤ q := fun q hq => by
              rcases HF6.out q hq with h1 | h1 | h1
              · exact HFR.out q h1
              · have := (own_lt HU5.out.1 q h1).1; have h2 := hGlt; omega
              · have := (HU5.out.2.alloc HU5.out.2.size (.cells #[.slice a5 y.length c5] 35)).size; omega
            have hrs := (HRES.out)
            have hR1 : (w6.setCell ⟨G, 0, none⟩ (.slice oa6 (s.length + 1) oc6)).heap[w.heap.size + 1]? = some (.cells #[.slice none 0 0] 26 (0, 0)) := (hkS.block _ (by have := HK7.out.size; omega) (by simp; omega)).trans ((HK7.out.block _ (by omega) (by intro hq; have h1 := HROW.out.own_sub _ hq; have := HFR.out _ h1; omega)).trans hrs)
            have hG5 := heap_setCell_same w6 G 0 _ _ (.slice oa6 (s.length + 1) oc6) HM1.out
            have hR5 := HR6.out.keep (good_pe gv_IntS) hkS (fun q hq hqg => by have := hGbs q hq; simp at hqg; omega)
            have hlen : (s ++ [y]).length = s.length + 1 := by simp
            exact ⟨⟨k + 1, oa6, oc6, bs6, s ++ [y], by omega, by go_num, by rw [hlen]; omega, hd (by rw [HS.out]; obtain ⟨h1, h2⟩ := List.getElem?_eq_some_iff.1 HY.out; rw [List.take_succ_eq_append_getElem h1, h2]), hHeld.1, hd hR1, hd (by rw [hlen]; exact hG5), hd (by rw [hlen] at hR5 ⊢; exact hR5), HN6, hd hGbs⟩, by simp [intOf]; omega⟩
          refine AllReadyH.cons (o := ⟨_, _, _, _, _, _⟩) rfl (fun K hK => ?_) ?_
          · (go_simp)
            refine hK.out _ _ ?_ (fun hHeld2 => ?_)
            · ((try dsimp only); refine HSX.out _ ?_; repeat' first | with_reducible assumption | with_reducible exact Below.refl _ _ | with_reducible refine balloc ?_ _ | with_reducible refine bset ?_ (by first | omega | (simp <;> omega)) _ | with_reducible apply Below.drew)
            clear hK K hHeld
            try simp only [Act.put, List.setIfInBounds_toArray, List.set_cons_zero, List.set_cons_succ]
            have hHeld := hHeld2; clear hHeld2
            refine wpAnyH_ready (rs := [1]) (by kernel_rfl) (by simp) ?_
            refine AllReadyH.cons (o := ⟨_, _, _, _, _, _⟩) rfl (fun K hK => ?_) AllReadyH.nil
            (go_simp)
            refine hK.out _ _ ?_ (fun hHeld2 => ?_)
            · ((try dsimp only); refine HSX.out _ ?_; repeat' first | with_reducible assumption | with_reducible exact Below.refl _ _ | with_reducible refine balloc ?_ _ | with_reducible refine bset ?_ (by first | omega | (simp <;> omega)) _ | with_reducible apply Below.drew)
            clear hK K hHeld
            try simp only [Act.put, List.setIfInBounds_toArray, List.set_cons_zero, List.set_cons_succ]
            have hHeld := hHeld2; clear hHeld2
            refine wpAnyH_ready (rs := [10]) (by kernel_rfl) (by simp) ?_
            refine AllReadyH.cons (o := ⟨_, _, _, _, _, _⟩) rfl (fun K hK => ?_) AllReadyH.nil
            (refine step_append_row (P := PE OIntS) (good_pe gv_IntS) Try.underlying24 info_IntSS rfl (by decide) (by decide) rfl _ _ rfl (.slice oa s.length oc) s bs rfl (HROW.out.keep (good_pe gv_IntS) (Keep.of_below [] (HU5.out.2.alloc HU5.out.2.size _)) (by simp)) HND.out _ 0 1 [.slice a5 y.length c5] y (blk (.slice a5 y.length c5)) rfl (cellv w5 (.slice a5 y.length c5)) rfl (by intro z hz; simp at hz; subst hz; exact HU5.out.one) ⟨.slice a5 y.length c5, rfl, ⟨own_zero (HU5.out.1.alloc _), rfl⟩⟩ (blk_nodup _) (by intro q hq hqb; have h1 := (own_lt HU5.out.1 q hq).1; have h2 := HROW.out.lt (good_pe gv_IntS) q hqb; omega) (by omega) ?_; intro v6 w6 bs6 hr6 hn6 hf6 hk6 hv6; have hk7 : Keep (blk (.slice oa s.length oc)) wr w6 := (Keep.of_below [] (HU5.out.2.alloc HU5.out.2.size _)).mono (by simp) |>.trans hk6; have hG := HG.out; have hBK : ∀ q ∈ blk (.slice oa s.length oc), W1.heap.size + 2 ≤ q := (fun q hq => HFR.out q (HROW.out.own_sub q hq)); have hm1 : w6.heap[G]? = some (.cells #[.slice oa s.length oc] 26 (0, 0)) := (hk7.block _ (Array.getElem?_eq_some_iff.1 hG).1 (by intro hq; have := hBK _ hq; omega)).trans hG; have m5 : w6.cell? ⟨G, 0, none⟩ = some (.slice oa s.length oc) := (by rw [cell_of_row w6 _ 0 _ _ (0, 0) hm1]; rfl); have m6 := frozen_of_row w6 _ 0 _ _ hm1; have hb6 : Below W1.heap.size W1 w6 := hbel.trans (hk7.below (by intro q hq; have := hBK q hq; omega) hbel.size); obtain ⟨oa6, oc6, rfl⟩ := hr6.slice; have HR6 := hd hr6; have HN6 := hd hn6; have HF6 := hd hf6; have HK7 := hd hk7; have HM1 := hd hm1; have HV6 := hd hv6; clear hr6 hn6 hf6 hk6 hk7 hG hm1 hv6)
            refine hK.out _ _ ?_ (fun hHeld2 => ?_)
            · ((try dsimp only); refine HSX.out _ ?_; repeat' first | with_reducible assumption | with_reducible exact Below.refl _ _ | with_reducible refine balloc ?_ _ | with_reducible refine bset ?_ (by first | omega | (simp <;> omega)) _ | with_reducible apply Below.drew)
            clear hK K hHeld
            try simp only [Act.put, List.setIfInBounds_toArray, List.set_cons_zero, List.set_cons_succ]
            have hHeld := hHeld2; clear hHeld2
            refine wpAnyH_take (i := 11) (oi := ⟨_, _, _, _, _, _⟩) (v := ?_) rfl (by kernel_rfl) (by kernel_rfl) (by kernel_rfl) (fun _ _ _ h => h) (Or.inl ⟨by rfl, ?_⟩) (by assumption) ?_
            rotate_left; · (intro w hSw; (try dsimp only at hSw); go_simp; try with_reducible rfl)
            try simp only [Act.put, List.setIfInBounds_toArray, List.set_cons_zero, List.set_cons_succ]
            refine wpAnyH_ready (rs := [12]) (by kernel_rfl) (by simp) ?_
            refine AllReadyH.cons (o := ⟨_, _, _, _, _, _⟩) rfl (fun K hK => ?_) AllReadyH.nil
            (go_simp)
            refine hK.out _ _ ?_ (fun hHeld2 => ?_)
            · ((try dsimp only); refine HSX.out _ ?_; repeat' first | with_reducible assumption | with_reducible exact Below.refl _ _ | with_reducible refine balloc ?_ _ | with_reducible refine bset ?_ (by first | omega | (simp <;> omega)) _ | with_reducible apply Below.drew)
            clear hK K hHeld
            try simp only [Act.put, List.setIfInBounds_toArray, List.set_cons_zero, List.set_cons_succ]
            have hHeld := hHeld2; clear hHeld2
            refine wpAnyH_done (by kernel_rfl) ?_ _
            go_wp2_with fail
            have hkS := Keep.set w6 G 0 (.slice oa6 (s.length + 1) oc6) [G] (by simp)
            have hGbs : ∀ q ∈ bs6, W1.heap.size + 2 ≤ q := fun q hq => by
              rcases HF6.out q hq with h1 | h1 | h1
              · exact HFR.out q h1
              · have := (own_lt HU5.out.1 q h1).1; have h2 := hGlt; omega
              · have := (HU5.out.2.alloc HU5.out.2.size (.cells #[.slice a5 y.length c5] 35)).size; omega
            have hrs := (HRES.out)
            have hR1 : (w6.setCell ⟨G, 0, none⟩ (.slice oa6 (s.length + 1) oc6)).heap[w.heap.size + 1]? = some (.cells #[.slice none 0 0] 26 (0, 0)) := (hkS.block _ (by have := HK7.out.size; omega) (by simp; omega)).trans ((HK7.out.block _ (by omega) (by intro hq; have h1 := HROW.out.own_sub _ hq; have := HFR.out _ h1; omega)).trans hrs)
            have hG5 := heap_setCell_same w6 G 0 _ _ (.slice oa6 (s.length + 1) oc6) HM1.out
            have hR5 := HR6.out.keep (good_pe gv_IntS) hkS (fun q hq hqg => by have := hGbs q hq; simp at hqg; omega)
            have hlen : (s ++ [y]).length = s.length + 1 := by simp
            exact ⟨⟨k + 1, oa6, oc6, bs6, s ++ [y], by omega, by go_num, by rw [hlen]; omega, hd (by rw [HS.out]; obtain ⟨h1, h2⟩ := List.getElem?_eq_some_iff.1 HY.out; rw [List.take_succ_eq_append_getElem h1, h2]), hHeld.1, hd hR1, hd (by rw [hlen]; exact hG5), hd (by rw [hlen] at hR5 ⊢; exact hR5), HN6, hd hGbs⟩, by simp [intOf]; omega⟩
          exact AllReadyH.nil
        exact AllReadyH.nil
      exact AllReadyH.nil
    · obtain rfl : k = L.length := by omega
      have c1 : wr.cell? ⟨G, 0, none⟩ = some (.slice oa s.length oc) := by rw [cell_of_row wr G 0 _ _ (0, 0) HG.out]; rfl
      have c2 : wr.cell? ⟨w.heap.size + 1, 0, none⟩ = some (.slice none 0 0) := by rw [cell_of_row wr _ 0 _ _ (0, 0) HRES.out]; rfl
      have f2 := frozen_of_row wr _ 0 _ _ HRES.out
      have hRl := (Array.getElem?_eq_some_iff.1 HRES.out).1
      have hkS := Keep.set wr (w.heap.size + 1) 0 (.slice oa s.length oc) [w.heap.size + 1] (by simp)
      have hE : Hid (NewB L w (.returned (.agg #[.slice oa s.length oc])) (wr.setCell ⟨w.heap.size + 1, 0, none⟩ (.slice oa s.length oc))) := hd (by
        have h1 := HROW.out.keep (good_pe gv_IntS) hkS (fun q hq hqg => by have := HFR.out q hq; simp at hqg; omega)
        have h2 := HS.out
        rw [List.take_length] at h2
        rw [h2] at h1 ⊢
        exact ⟨_, bs, rfl, h1, HND.out, fun q hq => by have := HFR.out q hq; omega, HBW.out.trans ((hbel.mono (by omega)).setCell (by simp) _)⟩)
      have HR1 := hd (show (wr.setCell ⟨w.heap.size + 1, 0, none⟩ (.slice oa s.length oc)).cell? ⟨w.heap.size + 1, 0, none⟩ = some (.slice oa s.length oc) from by rw [cell_of_row _ _ 0 _ _ (0, 0) (heap_setCell_same wr _ 0 _ _ _ HRES.out)]; rfl)
      clear hkS hRl
      go_wp2
      have r1 := HR1.out
      refine bodyPost_ret (v := .agg #[.slice oa s.length oc]) (by simp [results, Try.results50, go_sem, r1]) rfl ?_
      exact hE.out

end Go.Proofs.Ytpgigoddjidfdaa.BuC
