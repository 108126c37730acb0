/- Chapter 15, spec's side: is a frame free (l15Is); what is given (l15Give). Condition: none. -/
import Derived.Test.YtpgigoddjidfdaaBuD
namespace Go.Proofs.Ytpgigoddjidfdaa.BuE
open Go.RowKit Go.Deep Num RowC TyA TyM TyB TyR TyF TyP TyT BuS BuC TyV BuD
set_option maxRecDepth 100000
set_option linter.unusedVariables false
set_option linter.unusedSimpArgs false

/-- Is a frame free? -/
def isB (L : List (List Int)) (f : Int) : Bool := (List.range L.length).any (fun o => hasB (L.getD o []) (f - f % ((2 ^ o : Nat) : Int)))
theorem isB_no {L : List (List Int)} {f : Int} {n : Nat} (h : ∀ j, j < n → hasB (L.getD j []) (f - f % ((2 ^ j : Nat) : Int)) = false) (hn : L.length = n) : isB L f = false := by
  unfold isB
  rw [List.any_eq_false]
  intro x hx
  rw [List.mem_range] at hx
  rw [h x (by omega)]
  simp
theorem isB_yes {L : List (List Int)} {f : Int} {o : Nat} (ho : o < L.length) (h : hasB (L.getD o []) (f - f % ((2 ^ o : Nat) : Int)) = true) : isB L f = true := by
  unfold isB
  rw [List.any_eq_true]
  exact ⟨o, List.mem_range.2 ho, h⟩
theorem tmod_pos (f : Int) (n : Nat) (h : 0 ≤ f) : f.tmod (n : Int) = f % (n : Int) := Int.tmod_eq_emod_of_nonneg h
set_option maxHeartbeats 4000000 in
theorem l15Is_any (g c : Nat) (L : List (List Int)) (bs : List Nat) (f : Int) (w : World) (hL : L.length = 5) (hf : 0 ≤ f ∧ f < 16) (hl : ∀ l ∈ L, l.length ≤ 2000000) (h : OIntSS w (.slice (some ⟨g, 0, none⟩) 5 c) L bs) :
    Calls Try.prog 72 #[.agg #[.slice (some ⟨g, 0, none⟩) 5 c], .int .i64 f] w fun e w' => e = .returned (.bool (isB L f)) ∧ Below w.heap.size w w' := by
  obtain ⟨hf0, hf1⟩ := hf
  obtain ⟨r, hr⟩ : ∃ r, isB L f = r := ⟨_, rfl⟩
  rw [hr]
  have HR := hd hr
  clear hr
  obtain ⟨W2, hW2⟩ : ∃ W2, w.alloc (.cells #[.slice (some ⟨g, 0, none⟩) 5 c] 26) = W2 := ⟨_, rfl⟩
  have hb2 : Below w.heap.size w W2 := by rw [← hW2]; exact (Below.refl _ _).alloc (Nat.le_refl _) _
  have e0 : W2.heap[w.heap.size]? = some (.cells #[.slice (some ⟨g, 0, none⟩) 5 c] 26 (0, 0)) := by rw [← hW2]; exact heap_at _ _ _ rfl
  have c0 : W2.cell? ⟨w.heap.size, 0, none⟩ = some (.slice (some ⟨g, 0, none⟩) 5 c) := by rw [cell_of_row W2 _ 0 _ _ (0, 0) e0]; rfl
  have HR0 := hd (show OIntSS W2 (.slice (some ⟨g, 0, none⟩) L.length c) L bs by rw [hL]; exact gv_IntSS.below h hb2)
  have HLL := hd hl
  have HL5 := hd hL
  have HB2 := hd hb2
  replace hW2 := hd hW2
  clear h hl hb2 e0 hL
  go_enter Try.func72, Try.ntmps72
  go_wp2_with fail
  rw [hW2.out]
  go_loopw [5] (fun i wr => ∃ o : Nat, o ≤ 5 ∧ i = .int .i64 o ∧ Hid (∀ j, j < o → hasB (L.getD j []) (f - f % ((2 ^ j : Nat) : Int)) = false) ∧ Hid (Below W2.heap.size W2 wr)) (fun i _ => 5 - (intOf i).toNat)
  case atStart => exact ⟨0, by omega, rfl, hd (fun j hj => by omega), hd (Below.refl _ _)⟩
  case round =>
    obtain ⟨o, ho, rfl, hpre, HBW⟩ := hrel
    have z0 : w.heap.size < W2.heap.size := World.block_lt_of_cell? W2 _ c0
    have c1 := (HBW.out.cell (p := ⟨w.heap.size, 0, none⟩) z0).trans c0
    by_cases hlt : o < 5
    · obtain ⟨l, hlo⟩ : ∃ l, L[o]? = some l := ⟨L[o]'(by have := HL5.out; omega), by simp⟩
      obtain ⟨u, bu, hcu, hou, hbu⟩ := Row.elem HR0.out hlo
      have hgl := World.block_lt_of_cell? W2 _ hcu
      have hcu1 := (HBW.out.cell (p := ⟨g, o, none⟩) hgl).trans hcu
      obtain ⟨pu, cu, rfl⟩ := gv_IntS.slice hou
      have ho0 : (0 : Int) ≤ (o : Int) := by omega
      have ho5 : (o : Int) < 5 := by omega
      have hll : l.length ≤ 2000000 := HLL.out l (List.mem_of_getElem? hlo)
      have hgd : L.getD o [] = l := by rw [List.getD_eq_getElem?_getD, hlo]; rfl
      obtain ⟨n2, hn2⟩ : ∃ n2 : Nat, 2 ^ o = n2 := ⟨_, rfl⟩
      have hn0 : 0 < n2 := by rw [← hn2]; exact Nat.two_pow_pos o
      have HLN := hd (fun X => l15Len_any o X (by omega))
      rw [hn2] at HLN
      have htm := tmod_pos f n2 hf0
      have hm0 := Int.emod_nonneg f (show (n2 : Int) ≠ 0 by omega)
      have hm1 : f % (n2 : Int) ≤ f := by
        obtain ⟨fn, rfl⟩ := Int.eq_ofNat_of_zero_le hf0
        exact_mod_cast Nat.mod_le fn n2
      obtain ⟨x2, hx2⟩ : ∃ x2, f - f % (n2 : Int) = x2 := ⟨_, rfl⟩
      have hwr : IntKind.i64.wrap (f - f % (n2 : Int)) = x2 := by rw [IntKind.wrap_i64]; omega
      have HHA := hd (fun X (hX : Below W2.heap.size W2 X) => l6Has_any _ l bu x2 X (gv_IntS.below hou hX) (by omega))
      have hne : ((n2 : Int) == 0) = false := beq_eq_false_iff_ne.2 (by omega)
      have hn00 : ¬ n2 = 0 := by omega
      have HSX := hd (show ∀ X, Below W2.heap.size W2 X → (Below W2.heap.size W2 X ∧ X.cell? ⟨w.heap.size, 0, none⟩ = some (.slice (some ⟨g, 0, none⟩) 5 c) ∧ X.cell? ⟨g, o, none⟩ = some (.slice pu l.length cu)) from fun X hX => ⟨hX, (hX.cell (p := ⟨w.heap.size, 0, none⟩) z0).trans c0, (hX.cell (p := ⟨g, o, none⟩) hgl).trans hcu⟩)
      have hbel := HBW.out
      obtain ⟨q, hqv⟩ : ∃ q, hasB l x2 = q := ⟨_, rfl⟩
      rw [hqv] at HHA
      have HQ := hd (show hasB (L.getD o []) (f - f % ((2 ^ o : Nat) : Int)) = q by rw [hgd, hn2, hx2, hqv])
      clear hlo hou hcu hcu1 hgd hn2 hqv hx2
      cases q with
      | true =>
        have HE : Hid (r = true) := hd (by rw [← HR.out]; exact isB_yes (by have := HL5.out; omega) HQ.out)
        go_wp2_with fail
        refine wp_region_held_drew (S := (fun X => Below W2.heap.size W2 X ∧ X.cell? ⟨w.heap.size, 0, none⟩ = some (.slice (some ⟨g, 0, none⟩) 5 c) ∧ X.cell? ⟨g, o, none⟩ = some (.slice pu l.length cu))) (by kernel_rfl) ?_ (fun hHeld => ?_)
        · ((try dsimp only); refine HSX.out _ ?_; repeat' first | with_reducible assumption | with_reducible exact Below.refl _ _ | with_reducible apply Below.drew)
        refine wpAnyH_take (i := 0) (oi := ⟨_, _, _, _, _, _⟩) (v := ?_) rfl (by kernel_rfl) (by kernel_rfl) (by kernel_rfl) (fun _ _ _ h => h) (Or.inl ⟨by rfl, ?_⟩) (by assumption) ?_
        rotate_left; · (intro w hSw; (try dsimp only at hSw); go_simp; try with_reducible rfl)
        try simp only [Act.put, List.setIfInBounds_toArray, List.set_cons_zero, List.set_cons_succ]
        refine wpAnyH_take (i := 1) (oi := ⟨_, _, _, _, _, _⟩) (v := ?_) rfl (by kernel_rfl) (by kernel_rfl) (by kernel_rfl) (fun _ _ _ h => h) (Or.inl ⟨by rfl, ?_⟩) (by assumption) ?_
        rotate_left; · (intro w hSw; (try dsimp only at hSw); go_simp; try with_reducible rfl)
        try simp only [Act.put, List.setIfInBounds_toArray, List.set_cons_zero, List.set_cons_succ]
        refine wpAnyH_take (i := 2) (oi := ⟨_, _, _, _, _, _⟩) (v := ?_) rfl (by kernel_rfl) (by kernel_rfl) (by kernel_rfl) (fun _ _ _ h => h) (Or.inl ⟨by rfl, ?_⟩) (by assumption) ?_
        rotate_left; · (intro w hSw; (try dsimp only at hSw); go_simp; try with_reducible rfl)
        try simp only [Act.put, List.setIfInBounds_toArray, List.set_cons_zero, List.set_cons_succ]
        refine wpAnyH_take (i := 3) (oi := ⟨_, _, _, _, _, _⟩) (v := ?_) rfl (by kernel_rfl) (by kernel_rfl) (by kernel_rfl) (fun _ _ _ h => h) (Or.inl ⟨by rfl, ?_⟩) (by assumption) ?_
        rotate_left; · (intro w hSw; (try dsimp only at hSw); go_simp; try with_reducible rfl)
        try simp only [Act.put, List.setIfInBounds_toArray, List.set_cons_zero, List.set_cons_succ]
        refine wpAnyH_take (i := 4) (oi := ⟨_, _, _, _, _, _⟩) (v := ?_) rfl (by kernel_rfl) (by kernel_rfl) (by kernel_rfl) (fun _ _ _ h => h) (Or.inl ⟨by rfl, ?_⟩) (by assumption) ?_
        rotate_left; · (intro w hSw; (try dsimp only at hSw); go_simp; try with_reducible rfl)
        try simp only [Act.put, List.setIfInBounds_toArray, List.set_cons_zero, List.set_cons_succ]
        refine wpAnyH_take (i := 5) (oi := ⟨_, _, _, _, _, _⟩) (v := ?_) rfl (by kernel_rfl) (by kernel_rfl) (by kernel_rfl) (fun _ _ _ h => h) (Or.inl ⟨by rfl, ?_⟩) (by assumption) ?_
        rotate_left; · (intro w hSw; (try dsimp only at hSw); go_simp; try with_reducible rfl)
        try simp only [Act.put, List.setIfInBounds_toArray, List.set_cons_zero, List.set_cons_succ]
        refine wpAnyH_take (i := 6) (oi := ⟨_, _, _, _, _, _⟩) (v := ?_) rfl (by kernel_rfl) (by kernel_rfl) (by kernel_rfl) (fun _ _ _ h => h) (Or.inl ⟨by rfl, ?_⟩) (by assumption) ?_
        rotate_left; · (intro w hSw; (try dsimp only at hSw); go_simp; try with_reducible rfl)
        try simp only [Act.put, List.setIfInBounds_toArray, List.set_cons_zero, List.set_cons_succ]
        refine wpAnyH_take (i := 7) (oi := ⟨_, _, _, _, _, _⟩) (v := ?_) rfl (by kernel_rfl) (by kernel_rfl) (by kernel_rfl) (fun _ _ _ h => h) (Or.inl ⟨by rfl, ?_⟩) (by assumption) ?_
        rotate_left; · (intro w hSw; (try dsimp only at hSw); go_simp; try with_reducible rfl)
        try simp only [Act.put, List.setIfInBounds_toArray, List.set_cons_zero, List.set_cons_succ]
        refine wpAnyH_ready (rs := [8]) (by kernel_rfl) (by simp) ?_
        refine AllReadyH.cons (o := ⟨_, _, _, _, _, _⟩) rfl (fun K hK => ?_) AllReadyH.nil
        (go_simp; go_at_call 38; refine (HLN.out _).mono ?_; rintro e w_ ⟨rfl, rfl⟩; (try go_wp2_with fail))
        refine hK.out _ _ ?_ (fun hHeld2 => ?_)
        · ((try dsimp only); refine HSX.out _ ?_; repeat' first | with_reducible assumption | with_reducible exact Below.refl _ _ | with_reducible apply Below.drew)
        clear hK K hHeld
        try simp only [Act.put, List.setIfInBounds_toArray, List.set_cons_zero, List.set_cons_succ]
        have hHeld := hHeld2; clear hHeld2
        refine wpAnyH_take (i := 9) (oi := ⟨_, _, _, _, _, _⟩) (v := ?_) rfl (by kernel_rfl) (by kernel_rfl) (by kernel_rfl) (fun _ _ _ h => h) (Or.inl ⟨by rfl, ?_⟩) (by assumption) ?_
        rotate_left; · (intro w hSw; (try dsimp only at hSw); go_simp; try with_reducible rfl)
        try simp only [Act.put, List.setIfInBounds_toArray, List.set_cons_zero, List.set_cons_succ]
        refine wpAnyH_take (i := 10) (oi := ⟨_, _, _, _, _, _⟩) (v := ?_) rfl (by kernel_rfl) (by kernel_rfl) (by kernel_rfl) (fun _ _ _ h => h) (Or.inl ⟨by rfl, ?_⟩) (by assumption) ?_
        rotate_left; · (intro w hSw; (try dsimp only at hSw); go_simp; try with_reducible rfl)
        try simp only [Act.put, List.setIfInBounds_toArray, List.set_cons_zero, List.set_cons_succ]
        refine wpAnyH_ready (rs := [11]) (by kernel_rfl) (by simp) ?_
        refine AllReadyH.cons (o := ⟨_, _, _, _, _, _⟩) rfl (fun K hK => ?_) AllReadyH.nil
        (go_simp; go_at_call 39; refine (HHA.out _ (‹Below W2.heap.size W2 _ ∧ _›.1)).mono ?_; rintro e w_ ⟨rfl, rfl⟩; (try go_wp2_with fail))
        refine hK.out _ _ ?_ (fun hHeld2 => ?_)
        · ((try dsimp only); refine HSX.out _ ?_; repeat' first | with_reducible assumption | with_reducible exact Below.refl _ _ | with_reducible apply Below.drew)
        clear hK K hHeld
        try simp only [Act.put, List.setIfInBounds_toArray, List.set_cons_zero, List.set_cons_succ]
        have hHeld := hHeld2; clear hHeld2
        refine wpAnyH_done (by kernel_rfl) ?_ _
        go_wp2_with fail
        go_ret
        exact ⟨by rw [HE.out]; rfl, HB2.out.trans ((hbel.drew).mono HB2.out.size)⟩
      | false =>
        have HP : Hid (∀ j, j < o + 1 → hasB (L.getD j []) (f - f % ((2 ^ j : Nat) : Int)) = false) := hd (fun j hj => by
          rcases Nat.lt_or_ge j o with h1 | h1
          · exact hpre.out j h1
          · have : j = o := by omega
            subst this; exact HQ.out)
        go_wp2_with fail
        refine wp_region_held_drew (S := (fun X => Below W2.heap.size W2 X ∧ X.cell? ⟨w.heap.size, 0, none⟩ = some (.slice (some ⟨g, 0, none⟩) 5 c) ∧ X.cell? ⟨g, o, none⟩ = some (.slice pu l.length cu))) (by kernel_rfl) ?_ (fun hHeld => ?_)
        · ((try dsimp only); refine HSX.out _ ?_; repeat' first | with_reducible assumption | with_reducible exact Below.refl _ _ | with_reducible apply Below.drew)
        refine wpAnyH_take (i := 0) (oi := ⟨_, _, _, _, _, _⟩) (v := ?_) rfl (by kernel_rfl) (by kernel_rfl) (by kernel_rfl) (fun _ _ _ h => h) (Or.inl ⟨by rfl, ?_⟩) (by assumption) ?_
        rotate_left; · (intro w hSw; (try dsimp only at hSw); go_simp; try with_reducible rfl)
        try simp only [Act.put, List.setIfInBounds_toArray, List.set_cons_zero, List.set_cons_succ]
        refine wpAnyH_take (i := 1) (oi := ⟨_, _, _, _, _, _⟩) (v := ?_) rfl (by kernel_rfl) (by kernel_rfl) (by kernel_rfl) (fun _ _ _ h => h) (Or.inl ⟨by rfl, ?_⟩) (by assumption) ?_
        rotate_left; · (intro w hSw; (try dsimp only at hSw); go_simp; try with_reducible rfl)
        try simp only [Act.put, List.setIfInBounds_toArray, List.set_cons_zero, List.set_cons_succ]
        refine wpAnyH_take (i := 2) (oi := ⟨_, _, _, _, _, _⟩) (v := ?_) rfl (by kernel_rfl) (by kernel_rfl) (by kernel_rfl) (fun _ _ _ h => h) (Or.inl ⟨by rfl, ?_⟩) (by assumption) ?_
        rotate_left; · (intro w hSw; (try dsimp only at hSw); go_simp; try with_reducible rfl)
        try simp only [Act.put, List.setIfInBounds_toArray, List.set_cons_zero, List.set_cons_succ]
        refine wpAnyH_take (i := 3) (oi := ⟨_, _, _, _, _, _⟩) (v := ?_) rfl (by kernel_rfl) (by kernel_rfl) (by kernel_rfl) (fun _ _ _ h => h) (Or.inl ⟨by rfl, ?_⟩) (by assumption) ?_
        rotate_left; · (intro w hSw; (try dsimp only at hSw); go_simp; try with_reducible rfl)
        try simp only [Act.put, List.setIfInBounds_toArray, List.set_cons_zero, List.set_cons_succ]
        refine wpAnyH_take (i := 4) (oi := ⟨_, _, _, _, _, _⟩) (v := ?_) rfl (by kernel_rfl) (by kernel_rfl) (by kernel_rfl) (fun _ _ _ h => h) (Or.inl ⟨by rfl, ?_⟩) (by assumption) ?_
        rotate_left; · (intro w hSw; (try dsimp only at hSw); go_simp; try with_reducible rfl)
        try simp only [Act.put, List.setIfInBounds_toArray, List.set_cons_zero, List.set_cons_succ]
        refine wpAnyH_take (i := 5) (oi := ⟨_, _, _, _, _, _⟩) (v := ?_) rfl (by kernel_rfl) (by kernel_rfl) (by kernel_rfl) (fun _ _ _ h => h) (Or.inl ⟨by rfl, ?_⟩) (by assumption) ?_
        rotate_left; · (intro w hSw; (try dsimp only at hSw); go_simp; try with_reducible rfl)
        try simp only [Act.put, List.setIfInBounds_toArray, List.set_cons_zero, List.set_cons_succ]
        refine wpAnyH_take (i := 6) (oi := ⟨_, _, _, _, _, _⟩) (v := ?_) rfl (by kernel_rfl) (by kernel_rfl) (by kernel_rfl) (fun _ _ _ h => h) (Or.inl ⟨by rfl, ?_⟩) (by assumption) ?_
        rotate_left; · (intro w hSw; (try dsimp only at hSw); go_simp; try with_reducible rfl)
        try simp only [Act.put, List.setIfInBounds_toArray, List.set_cons_zero, List.set_cons_succ]
        refine wpAnyH_take (i := 7) (oi := ⟨_, _, _, _, _, _⟩) (v := ?_) rfl (by kernel_rfl) (by kernel_rfl) (by kernel_rfl) (fun _ _ _ h => h) (Or.inl ⟨by rfl, ?_⟩) (by assumption) ?_
        rotate_left; · (intro w hSw; (try dsimp only at hSw); go_simp; try with_reducible rfl)
        try simp only [Act.put, List.setIfInBounds_toArray, List.set_cons_zero, List.set_cons_succ]
        refine wpAnyH_ready (rs := [8]) (by kernel_rfl) (by simp) ?_
        refine AllReadyH.cons (o := ⟨_, _, _, _, _, _⟩) rfl (fun K hK => ?_) AllReadyH.nil
        (go_simp; go_at_call 38; refine (HLN.out _).mono ?_; rintro e w_ ⟨rfl, rfl⟩; (try go_wp2_with fail))
        refine hK.out _ _ ?_ (fun hHeld2 => ?_)
        · ((try dsimp only); refine HSX.out _ ?_; repeat' first | with_reducible assumption | with_reducible exact Below.refl _ _ | with_reducible apply Below.drew)
        clear hK K hHeld
        try simp only [Act.put, List.setIfInBounds_toArray, List.set_cons_zero, List.set_cons_succ]
        have hHeld := hHeld2; clear hHeld2
        refine wpAnyH_take (i := 9) (oi := ⟨_, _, _, _, _, _⟩) (v := ?_) rfl (by kernel_rfl) (by kernel_rfl) (by kernel_rfl) (fun _ _ _ h => h) (Or.inl ⟨by rfl, ?_⟩) (by assumption) ?_
        rotate_left; · (intro w hSw; (try dsimp only at hSw); go_simp; try with_reducible rfl)
        try simp only [Act.put, List.setIfInBounds_toArray, List.set_cons_zero, List.set_cons_succ]
        refine wpAnyH_take (i := 10) (oi := ⟨_, _, _, _, _, _⟩) (v := ?_) rfl (by kernel_rfl) (by kernel_rfl) (by kernel_rfl) (fun _ _ _ h => h) (Or.inl ⟨by rfl, ?_⟩) (by assumption) ?_
        rotate_left; · (intro w hSw; (try dsimp only at hSw); go_simp; try with_reducible rfl)
        try simp only [Act.put, List.setIfInBounds_toArray, List.set_cons_zero, List.set_cons_succ]
        refine wpAnyH_ready (rs := [11]) (by kernel_rfl) (by simp) ?_
        refine AllReadyH.cons (o := ⟨_, _, _, _, _, _⟩) rfl (fun K hK => ?_) AllReadyH.nil
        (go_simp; go_at_call 39; refine (HHA.out _ (‹Below W2.heap.size W2 _ ∧ _›.1)).mono ?_; rintro e w_ ⟨rfl, rfl⟩; (try go_wp2_with fail))
        refine hK.out _ _ ?_ (fun hHeld2 => ?_)
        · ((try dsimp only); refine HSX.out _ ?_; repeat' first | with_reducible assumption | with_reducible exact Below.refl _ _ | with_reducible apply Below.drew)
        clear hK K hHeld
        try simp only [Act.put, List.setIfInBounds_toArray, List.set_cons_zero, List.set_cons_succ]
        have hHeld := hHeld2; clear hHeld2
        refine wpAnyH_done (by kernel_rfl) ?_ _
        go_wp2_with fail
        go_roundw
        case rel => exact ⟨o + 1, by omega, by go_num, HP, hd hbel.drew⟩
        case measure => simp [intOf]; omega
    · obtain rfl : o = 5 := by omega
      have HE : Hid (r = false) := hd (by rw [← HR.out]; exact isB_no hpre.out HL5.out)
      go_wp2
      go_ret
      exact ⟨by rw [HE.out]; rfl, HB2.out.trans (HBW.out.mono HB2.out.size)⟩
/-- Blocks that meet: k orders are left. -/
def other (o : Nat) (f : Int) : Int := if f % (2 * ((2 ^ o : Nat) : Int)) = 0 then f + ((2 ^ o : Nat) : Int) else f - ((2 ^ o : Nat) : Int)
def meetL : Nat → Nat → Int → List (List Int) → List (List Int)
  | 0, o, f, L => L.set o (putL (L.getD o []) f)
  | k + 1, o, f, L => if hasB (L.getD o []) (other o f) then meetL k (o + 1) (if other o f < f then other o f else f) (L.set o ((L.getD o []).filter (fun y => decide (y ≠ other o f)))) else L.set o (putL (L.getD o []) f)
def giveM (L : List (List Int)) (f : Int) : List (List Int) × Bool := if (decide (0 ≤ f) && decide (f < 16)) && !isB L f then (meetL 4 0 f L, true) else (L, false)
def GvP (v : Value) (L : List (List Int)) (f : Int) (bs : List Nat) (g : Nat) (w : World) (e : Ending) (w' : World) : Prop := ∃ bs', e = .returned (.tuple #[.agg #[v], .bool (giveM L f).2]) ∧ OIntSS w' v (giveM L f).1 bs' ∧ bs'.Nodup ∧ (∀ y ∈ bs', y ∈ bs ∨ w.heap.size ≤ y) ∧ Keep [g] w w'
theorem odd_step (f : Int) (o : Nat) (ho : o < 4) (h : f % ((2 ^ o : Nat) : Int) = 0) (h2 : f % (2 * ((2 ^ o : Nat) : Int)) ≠ 0) : (f - ((2 ^ o : Nat) : Int)) % ((2 ^ (o + 1) : Nat) : Int) = 0 := by
  rcases (by omega : o = 0 ∨ o = 1 ∨ o = 2 ∨ o = 3) with rfl | rfl | rfl | rfl <;> simp at * <;> omega
set_option maxHeartbeats 8000000 in
theorem l15Give_any (g c : Nat) (L : List (List Int)) (bs : List Nat) (f0 : Int) (w : World) (hL : L.length = 5) (hl : ∀ l ∈ L, l.length ≤ 1100000) (h : OIntSS w (.slice (some ⟨g, 0, none⟩) 5 c) L bs) (hn : bs.Nodup) :
    Calls Try.prog 51 #[.agg #[.slice (some ⟨g, 0, none⟩) 5 c], .int .i64 f0] w fun e w' => GvP (.slice (some ⟨g, 0, none⟩) 5 c) L f0 bs g w e w' := by
  obtain ⟨W2, hW2⟩ : ∃ W2, (w.alloc (.cells #[.slice (some ⟨g, 0, none⟩) 5 c] 26)).alloc (.cells #[.slice none 0 0] 26) = W2 := ⟨_, rfl⟩
  have hb2 : Below w.heap.size w W2 := by rw [← hW2]; exact ((Below.refl _ _).alloc (Nat.le_refl _) _).alloc (by simp) _
  have e0 : W2.heap[w.heap.size]? = some (.cells #[.slice (some ⟨g, 0, none⟩) 5 c] 26 (0, 0)) := by rw [← hW2]; exact heap_up (heap_at _ _ _ rfl) _
  have e1 : W2.heap[w.heap.size + 1]? = some (.cells #[.slice none 0 0] 26 (0, 0)) := by rw [← hW2]; exact heap_at _ _ _ (by simp)
  have hs2 : w.heap.size + 2 ≤ W2.heap.size := by rw [← hW2]; simp
  have hgw : g < w.heap.size := h.lt (good_pe gv_IntS) g (h.own_sub g (by rw [blk_some]; simp))
  have c0 : W2.cell? ⟨w.heap.size, 0, none⟩ = some (.slice (some ⟨g, 0, none⟩) 5 c) := by rw [cell_of_row W2 _ 0 _ _ (0, 0) e0]; rfl
  have HR0 := hd (show OIntSS W2 (.slice (some ⟨g, 0, none⟩) L.length c) L bs by rw [hL]; exact gv_IntSS.below h hb2)
  have HB2 := hd hb2
  have HBL := hd (h.lt (good_pe gv_IntS))
  have HN := hd hn
  have HE1 := hd e1
  have HLL := hd hl
  have HSX := hd (show ∀ X, Keep [g] W2 X → (Keep [g] W2 X ∧ X.cell? ⟨w.heap.size, 0, none⟩ = some (.slice (some ⟨g, 0, none⟩) 5 c)) from fun X hX => ⟨hX, by
    have h1 := (hX.block w.heap.size (by omega) (by simp; omega)).trans e0
    rw [cell_of_row X _ 0 _ _ (0, 0) h1]; rfl⟩)
  have HL5 := hd hL
  have HIS := hd (fun (hf : 0 ≤ f0 ∧ f0 < 16) => l15Is_any g c L bs f0 W2 hL hf (fun l h1 => by have := hl l h1; omega) (by have := HR0.out; rw [hL] at this; exact this))
  have HFR := hd (l12Frame_any f0 W2)
  replace hW2 := hd hW2
  clear h hn e0 e1 hl hb2
  by_cases hfr : 0 ≤ f0 ∧ f0 < 16
  · have hfq : (decide (0 ≤ f0) && decide (f0 < 16)) = true := by simp; omega
    rw [hfq] at HFR
    replace HIS := hd (HIS.out hfr)
    cases hib : isB L f0 with
    | true =>
      rw [hib] at HIS
      have HGM : Hid (giveM L f0 = (L, false)) := hd (by unfold giveM; rw [hfq, hib]; rfl)
      go_enter Try.func51, Try.ntmps51
      go_wp2_with (first | (go_at_call 71; fail) | (go_at_call 72; fail))
      rw [hW2.out]
      refine HFR.out.mono ?_
      rintro e w_ ⟨rfl, rfl⟩
      go_wp2_with (go_at_call 72; fail)
      refine HIS.out.mono ?_
      rintro e X ⟨rfl, hb3⟩
      have hLX : L.length = 5 := HL5.out
      have HPX : HA W2 W2.heap.size g c L bs X := ⟨bs, HR0.out.keep (good_pe gv_IntS) (Keep.of_below [] hb3) (by simp), HN.out, fun y hy => .inl hy, Keep.of_below [g] hb3⟩
      have HX := hd HPX
      obtain ⟨bsx, hrx, hnx, hfx, hkx⟩ := HPX
      have c1x := (HSX.out X hkx).2
      have eR := (hkx.block (w.heap.size + 1) (by omega) (by simp; omega)).trans HE1.out
      have cR : X.cell? ⟨w.heap.size + 1, 0, none⟩ = some (.slice none 0 0) := by rw [cell_of_row X _ 0 _ _ (0, 0) eR]; rfl
      have fR := frozen_of_row X _ 0 _ _ eR
      have hkS := Keep.set X (w.heap.size + 1) 0 (.slice (some ⟨g, 0, none⟩) 5 c) [w.heap.size + 1] (by simp)
      have HE : Hid (GvP (.slice (some ⟨g, 0, none⟩) 5 c) L f0 bs g w (.returned (.tuple #[.agg #[.slice (some ⟨g, 0, none⟩) 5 c], .bool false])) (X.setCell ⟨w.heap.size + 1, 0, none⟩ (.slice (some ⟨g, 0, none⟩) 5 c))) := hd (by
        refine ⟨bsx, by rw [HGM.out], ?_, hnx, fun y hy => (hfx y hy).imp id (fun h1 => by omega), ?_⟩
        · rw [HGM.out]
          have h1 := hrx.keep (good_pe gv_IntS) hkS (fun y hy hyr => by simp at hyr; rcases hfx y hy with h2 | h2
                                                                        · have := HBL.out y h2; omega
                                                                        · omega)
          rw [hLX] at h1
          exact h1
        · exact ((Keep.of_below [g] HB2.out).trans hkx).then hkS (fun y hy => .inr (by simp at hy; omega)))
      have HR1 := hd (show (X.setCell ⟨w.heap.size + 1, 0, none⟩ (.slice (some ⟨g, 0, none⟩) 5 c)).cell? ⟨w.heap.size + 1, 0, none⟩ = some (.slice (some ⟨g, 0, none⟩) 5 c) from by rw [cell_of_row _ _ 0 _ _ (0, 0) (heap_setCell_same X _ 0 _ _ _ eR)]; rfl)
      clear hkS eR hrx hnx hfx hkx
      go_wp2
      have r1 := HR1.out
      refine bodyPost_ret (v := .tuple #[.agg #[.slice (some ⟨g, 0, none⟩) 5 c], .bool false]) (by simp [results, Try.results51, go_sem, r1]) rfl ?_
      exact HE.out
    | false =>
      rw [hib] at HIS
      obtain ⟨F, hF⟩ : ∃ F, meetL 4 0 f0 L = F := ⟨_, rfl⟩
      have HGF0 : Hid (giveM L f0 = (F, true)) := hd (by unfold giveM; rw [hfq, hib]; simp [hF])
      have HF := hd hF
      obtain ⟨hf00, hf01⟩ := hfr
      clear hF hfq hib
      go_enter Try.func51, Try.ntmps51
      go_wp2_with (first | (go_at_call 71; fail) | (go_at_call 72; fail))
      rw [hW2.out]
      refine HFR.out.mono ?_
      rintro e w_ ⟨rfl, rfl⟩
      go_wp2_with (go_at_call 72; fail)
      refine HIS.out.mono ?_
      rintro e w3 ⟨rfl, hb3⟩
      have HHA : Hid (HA W2 W2.heap.size g c L bs w3) := hd ⟨bs, HR0.out.keep (good_pe gv_IntS) (Keep.of_below [] hb3) (by simp), HN.out, fun y hy => .inl hy, Keep.of_below [g] hb3⟩
      clear hb3
      go_wp2_with fail
      go_loopw [1, 6] (fun fv i wr => ∃ (o : Nat) (f : Int) (Lc : List (List Int)), o ≤ 4 ∧ i = .int .i64 o ∧ fv = .int .i64 f ∧ (0 ≤ f ∧ f < 16) ∧ Hid (f % ((2 ^ o : Nat) : Int) = 0) ∧ Lc.length = 5 ∧ Hid (meetL (4 - o) o f Lc = F) ∧ Hid (∀ l ∈ Lc, l.length ≤ 1100000) ∧ Hid (HA W2 W2.heap.size g c Lc bs wr)) (fun _ i _ => 4 - (intOf i).toNat)
      case atStart => exact ⟨0, f0, L, by omega, rfl, rfl, ⟨hf00, hf01⟩, hd (by simp), HL5.out, HF, HLL, HHA⟩
      case round =>
        clear HHA
        obtain ⟨o, f, Lc, ho, rfl, rfl, ⟨hf0, hf1⟩, HM, hLc, HC, HLB, HHA⟩ := hrel
        obtain ⟨bs', hrow, hnd, hfr, hkeep⟩ := HHA.out
        replace hrow := hd hrow
        have c1 := (HSX.out wr hkeep).2
        have hgl : g < wr.heap.size := Nat.lt_of_lt_of_le (by omega) hkeep.size
        have hws : w.heap.size + 2 ≤ wr.heap.size := Nat.le_trans hs2 hkeep.size
        obtain ⟨y, hy⟩ : ∃ y, Lc[o]? = some y := ⟨Lc[o]'(by omega), by simp⟩
        obtain ⟨u, bu, hcu, hou, hbu⟩ := Row.elem hrow.out hy
        obtain ⟨pu, cu, rfl⟩ := gv_IntS.slice hou
        have hyl : y.length ≤ 1100000 := HLB.out y (List.mem_of_getElem? hy)
        have HY : Hid (Lc.getD o [] = y) := hd (by rw [List.getD_eq_getElem?_getD, hy]; rfl)
        have ho0 : (0 : Int) ≤ (o : Int) := by omega
        have ho5 : (o : Int) < 5 := by omega
        by_cases hlt : o < 4
        · have ho4 : (o : Int) < 4 := by omega
          obtain ⟨n2, hn2⟩ : ∃ n2 : Nat, 2 ^ o = n2 := ⟨_, rfl⟩
          have hn0 : 0 < n2 := by rw [← hn2]; exact Nat.two_pow_pos o
          have hn8 : n2 ≤ 8 := by rw [← hn2]; rcases (by omega : o = 0 ∨ o = 1 ∨ o = 2 ∨ o = 3) with rfl | rfl | rfl | rfl <;> decide
          have HLN := hd (fun X => l15Len_any o X (by omega))
          rw [hn2] at HLN
          have hw1 : IntKind.i64.wrap (f + (n2 : Int)) = f + (n2 : Int) := by rw [IntKind.wrap_i64]; omega
          have hw2 : IntKind.i64.wrap (2 * (n2 : Int)) = 2 * (n2 : Int) := by rw [IntKind.wrap_i64]; omega
          have htm : f.tmod (2 * (n2 : Int)) = f % (2 * (n2 : Int)) := Int.tmod_eq_emod_of_nonneg hf0
          have hne : (2 * (n2 : Int) == 0) = false := beq_eq_false_iff_ne.2 (by omega)
          have HO2 : Hid (n2 = 2 ^ o) := hd hn2.symm
          obtain ⟨x2, hx2⟩ : ∃ x2, other o f = x2 := ⟨_, rfl⟩
          have HHA2 := hd (fun X (hX : Below wr.heap.size wr X) => l6Has_any _ y bu x2 X (gv_IntS.below hou hX) (by omega))
          have hox : x2 = if f % (2 * (n2 : Int)) = 0 then f + (n2 : Int) else f - (n2 : Int) := by rw [← hx2]; unfold other; rw [hn2]
          have hge : f % (2 * (n2 : Int)) ≠ 0 → (n2 : Int) ≤ f := fun h => by
            have h1 := HM.out
            rw [hn2] at h1
            by_cases h2 : f < (n2 : Int)
            · rw [Int.emod_eq_of_lt hf0 h2] at h1
              subst h1
              simp at h
            · omega
          obtain ⟨q, hqv⟩ : ∃ q, hasB y x2 = q := ⟨_, rfl⟩
          rw [hqv] at HHA2
          have HX2 := hd hx2
          have HQV := hd hqv
          have HWI := hd (fun X (hX : Below wr.heap.size wr X) => l15Without_any _ y bu x2 X (gv_IntS.below hou hX) (by omega))
          obtain ⟨yw, hyw⟩ : ∃ yw, y.filter (fun z => decide (z ≠ x2)) = yw := ⟨_, rfl⟩
          rw [hyw] at HWI
          have hywl : yw.length ≤ 1100000 := by rw [← hyw]; exact Nat.le_trans (List.length_filter_le _ _) hyl
          have HYW := hd hyw
          clear hyw
          have hcase : (f % (2 * (n2 : Int)) = 0 ∧ x2 = f + (n2 : Int)) ∨ (f % (2 * (n2 : Int)) ≠ 0 ∧ x2 = f - (n2 : Int)) := by
            by_cases hc : f % (2 * (n2 : Int)) = 0
            · rw [if_pos hc] at hox; exact .inl ⟨hc, hox⟩
            · rw [if_neg hc] at hox; exact .inr ⟨hc, hox⟩
          clear hn2 hx2 hqv hox
          cases q with
          | false =>
            have HGF : Hid (giveM L f0 = (Lc.set o (putL y f), true)) := hd (by
              have h1 := HC.out
              obtain ⟨k, hk⟩ : ∃ k, 4 - o = k + 1 := ⟨3 - o, by omega⟩
              rw [hk] at h1
              unfold meetL at h1
              rw [HY.out, HX2.out, HQV.out] at h1
              rw [HGF0.out, ← h1]
              rfl)
            rcases hcase with ⟨hc, rfl⟩ | ⟨hc, rfl⟩
            · have hb : (f % (2 * (n2 : Int)) != 0) = false := by simpa using hc
              clear hge
              go_wp2_with (first | (go_at_call 38; refine (HLN.out _).mono ?_; rintro e w_ ⟨rfl, rfl⟩) | (go_at_call 39; refine (HHA2.out _ (Below.refl _ _)).mono ?_; rintro e w_ ⟨rfl, rfl⟩))
              have HPU := hd (fun X (hX : Below wr.heap.size wr X) => l15Put_any _ y bu f X (gv_IntS.below hou hX) (by omega))
              clear hy hou
              go_wp2_with fail
              refine wp_region_held_drew (S := (fun X => Keep [g] W2 X ∧ X.cell? ⟨w.heap.size, 0, none⟩ = some (.slice (some ⟨g, 0, none⟩) 5 c))) (by kernel_rfl) ?_ (fun hHeld => ?_)
              · exact HSX.out _ hkeep.drew
              obtain ⟨w0, hw0⟩ : ∃ X, wr.drew = X := ⟨_, rfl⟩
              have hKw0 : Keep [g] W2 w0 := by rw [← hw0]; exact hkeep.drew
              have hB0 : Below wr.heap.size wr w0 := by rw [← hw0]; exact (Below.refl _ _).drew
              have hrow0 := hrow.out.keep (good_pe gv_IntS) (Keep.of_below [] hB0) (by simp)
              have hcu0 := (hB0.cell (p := ⟨g, o, none⟩) hgl).trans hcu
              have hz0 := hB0.size
              rw [hw0] at hHeld ⊢
              clear hw0
              refine wpAnyH_take (i := 0) (oi := ⟨_, _, _, _, _, _⟩) (v := ?_) rfl (by kernel_rfl) (by kernel_rfl) (by kernel_rfl) (fun _ _ _ h => h) (Or.inl ⟨by rfl, ?_⟩) (by assumption) ?_
              rotate_left; · (intro w hSw; (try dsimp only at hSw); go_simp; try with_reducible rfl)
              try simp only [Act.put, List.setIfInBounds_toArray, List.set_cons_zero, List.set_cons_succ]
              refine wpAnyH_take (i := 1) (oi := ⟨_, _, _, _, _, _⟩) (v := ?_) rfl (by kernel_rfl) (by kernel_rfl) (by kernel_rfl) (fun _ _ _ h => h) (Or.inl ⟨by rfl, ?_⟩) (by assumption) ?_
              rotate_left; · (intro w hSw; (try dsimp only at hSw); go_simp; try with_reducible rfl)
              try simp only [Act.put, List.setIfInBounds_toArray, List.set_cons_zero, List.set_cons_succ]
              refine wpAnyH_take (i := 2) (oi := ⟨_, _, _, _, _, _⟩) (v := ?_) rfl (by kernel_rfl) (by kernel_rfl) (by kernel_rfl) (fun _ _ _ h => h) (Or.inl ⟨by rfl, ?_⟩) (by assumption) ?_
              rotate_left; · (intro w hSw; (try dsimp only at hSw); go_simp; try with_reducible rfl)
              try simp only [Act.put, List.setIfInBounds_toArray, List.set_cons_zero, List.set_cons_succ]
              refine wpAnyH_take (i := 3) (oi := ⟨_, _, _, _, _, _⟩) (v := ?_) rfl (by kernel_rfl) (by kernel_rfl) (by kernel_rfl) (fun _ _ _ h => h) (Or.inl ⟨by rfl, ?_⟩) (by assumption) ?_
              rotate_left; · (intro w hSw; (try dsimp only at hSw); go_simp; try with_reducible rfl)
              try simp only [Act.put, List.setIfInBounds_toArray, List.set_cons_zero, List.set_cons_succ]
              refine wpAnyH_take (i := 4) (oi := ⟨_, _, _, _, _, _⟩) (v := ?_) rfl (by kernel_rfl) (by kernel_rfl) (by kernel_rfl) (fun _ _ _ h => h) (Or.inl ⟨by rfl, ?_⟩) (by assumption) ?_
              rotate_left; · (intro w hSw; (try dsimp only at hSw); go_simp; try with_reducible rfl)
              try simp only [Act.put, List.setIfInBounds_toArray, List.set_cons_zero, List.set_cons_succ]
              refine wpAnyH_take (i := 5) (oi := ⟨_, _, _, _, _, _⟩) (v := ?_) rfl (by kernel_rfl) (by kernel_rfl) (by kernel_rfl) (fun _ _ _ h => h) (Or.inl ⟨by rfl, ?_⟩) (by assumption) ?_
              rotate_left; · (intro w hSw; (try dsimp only at hSw); go_simp; try with_reducible rfl)
              try simp only [Act.put, List.setIfInBounds_toArray, List.set_cons_zero, List.set_cons_succ]
              refine wpAnyH_take (i := 6) (oi := ⟨_, _, _, _, _, _⟩) (v := ?_) rfl (by kernel_rfl) (by kernel_rfl) (by kernel_rfl) (fun _ _ _ h => h) (Or.inl ⟨by rfl, ?_⟩) (by assumption) ?_
              rotate_left; · (intro w hSw; (try dsimp only at hSw); go_simp; try with_reducible rfl)
              try simp only [Act.put, List.setIfInBounds_toArray, List.set_cons_zero, List.set_cons_succ]
              refine wpAnyH_take (i := 8) (oi := ⟨_, _, _, _, _, _⟩) (v := ?_) rfl (by kernel_rfl) (by kernel_rfl) (by kernel_rfl) (fun _ _ _ h => h) (Or.inl ⟨by rfl, ?_⟩) (by assumption) ?_
              rotate_left; · (intro w hSw; (try dsimp only at hSw); go_simp; try with_reducible rfl)
              try simp only [Act.put, List.setIfInBounds_toArray, List.set_cons_zero, List.set_cons_succ]
              refine wpAnyH_ready (rs := [7]) (by kernel_rfl) (by simp) ?_
              refine AllReadyH.cons (o := ⟨_, _, _, _, _, _⟩) rfl (fun K hK => ?_) AllReadyH.nil
              have hcu1 := ((Below.refl _ _).cell (p := ⟨g, o, none⟩) (by show g < _; omega)).trans hcu0
              go_simp
              refine hK.out _ _ ?_ (fun hHeld2 => ?_)
              · ((try dsimp only); exact HSX.out _ hKw0)
              clear hK K hHeld
              try simp only [Act.put, List.setIfInBounds_toArray, List.set_cons_zero, List.set_cons_succ]
              have hHeld := hHeld2; clear hHeld2
              refine wpAnyH_ready (rs := [9]) (by kernel_rfl) (by simp) ?_
              refine AllReadyH.cons (o := ⟨_, _, _, _, _, _⟩) rfl (fun K hK => ?_) AllReadyH.nil
              go_simp
              go_at_call 70
              refine (HPU.out _ (btr (Below.refl _ _) hB0)).mono ?_
              rintro e wP ⟨uP, dP, rfl, hrP, hnP, hsP, hwP⟩
              obtain ⟨aP, cP, rfl⟩ := gv_IntS.slice hrP
              have hKwP : Keep [g] W2 wP := hKw0.trans ((Keep.of_below [] hwP).mono (by simp))
              try go_wp2_with fail
              refine hK.out _ _ ?_ (fun hHeld2 => ?_)
              · ((try dsimp only); exact HSX.out _ hKwP)
              clear hK K hHeld
              try simp only [Act.put, List.setIfInBounds_toArray, List.set_cons_zero, List.set_cons_succ]
              have hHeld := hHeld2; clear hHeld2
              refine wpAnyH_take (i := 10) (oi := ⟨_, _, _, _, _, _⟩) (v := ?_) rfl (by kernel_rfl) (by kernel_rfl) (by kernel_rfl) (fun _ _ _ h => h) (Or.inl ⟨by rfl, ?_⟩) (by assumption) ?_
              rotate_left; · (intro w hSw; (try dsimp only at hSw); go_simp; try with_reducible rfl)
              try simp only [Act.put, List.setIfInBounds_toArray, List.set_cons_zero, List.set_cons_succ]
              refine wpAnyH_ready (rs := [11]) (by kernel_rfl) (by simp) ?_
              refine AllReadyH.cons (o := ⟨_, _, _, _, _, _⟩) rfl (fun K hK => ?_) AllReadyH.nil
              have hrw : OIntSS wP (.slice (some ⟨g, 0, none⟩) Lc.length c) Lc bs' := hrow0.keep (good_pe gv_IntS) (Keep.of_below [] hwP) (by simp)
              obtain ⟨xs_, bss_, hown_, _⟩ := id hrw
              have m5 : ∃ u, wP.cell? ⟨g, o, none⟩ = some u := ⟨_, (hwP.cell (p := ⟨g, o, none⟩) (by show g < _; omega)).trans hcu0⟩
              obtain ⟨u5, m5⟩ := m5
              have m6 : wP.frozen? ⟨g, o, none⟩ = false := hown_.frozenAt o
              clear hown_
              go_simp
              refine hK.out _ _ ?_ (fun hHeld2 => ?_)
              · ((try dsimp only); exact HSX.out _ (hKwP.trans (Keep.set _ _ _ _ _ (by simp))))
              clear hK K hHeld
              try simp only [Act.put, List.setIfInBounds_toArray, List.set_cons_zero, List.set_cons_succ]
              have hHeld := hHeld2; clear hHeld2
              refine wpAnyH_done (by kernel_rfl) ?_ _
              have HPX := HA.put ⟨bs', hrow.out, hnd, hfr, hkeep⟩ (btr hwP hB0) hrP hnP (fun y hy => by have := hsP y hy; omega) (show o < Lc.length by omega) hkeep.size
              have hLX : (Lc.set o (putL y f)).length = 5 := by simp [hLc]
              have HGM : Hid (giveM L f0 = (Lc.set o (putL y f), true)) := HGF
              obtain ⟨X, hX⟩ : ∃ X, wP.setCell ⟨g, o, none⟩ (.slice aP (putL y f).length cP) = X := ⟨_, rfl⟩
              rw [hX] at HPX hHeld ⊢
              clear hX
              have HX := hd HPX
              obtain ⟨bsx, hrx, hnx, hfx, hkx⟩ := HPX
              have c1x := (HSX.out X hkx).2
              have eR := (hkx.block (w.heap.size + 1) (by omega) (by simp; omega)).trans HE1.out
              have cR : X.cell? ⟨w.heap.size + 1, 0, none⟩ = some (.slice none 0 0) := by rw [cell_of_row X _ 0 _ _ (0, 0) eR]; rfl
              have fR := frozen_of_row X _ 0 _ _ eR
              have hkS := Keep.set X (w.heap.size + 1) 0 (.slice (some ⟨g, 0, none⟩) 5 c) [w.heap.size + 1] (by simp)
              have HE : Hid (GvP (.slice (some ⟨g, 0, none⟩) 5 c) L f0 bs g w (.returned (.tuple #[.agg #[.slice (some ⟨g, 0, none⟩) 5 c], .bool true])) (X.setCell ⟨w.heap.size + 1, 0, none⟩ (.slice (some ⟨g, 0, none⟩) 5 c))) := hd (by
                refine ⟨bsx, by rw [HGM.out], ?_, hnx, fun y hy => (hfx y hy).imp id (fun h1 => by omega), ?_⟩
                · rw [HGM.out]
                  have h1 := hrx.keep (good_pe gv_IntS) hkS (fun y hy hyr => by simp at hyr; rcases hfx y hy with h2 | h2
                                                                                · have := HBL.out y h2; omega
                                                                                · omega)
                  rw [hLX] at h1
                  exact h1
                · exact ((Keep.of_below [g] HB2.out).trans hkx).then hkS (fun y hy => .inr (by simp at hy; omega)))
              have HR1 := hd (show (X.setCell ⟨w.heap.size + 1, 0, none⟩ (.slice (some ⟨g, 0, none⟩) 5 c)).cell? ⟨w.heap.size + 1, 0, none⟩ = some (.slice (some ⟨g, 0, none⟩) 5 c) from by rw [cell_of_row _ _ 0 _ _ (0, 0) (heap_setCell_same X _ 0 _ _ _ eR)]; rfl)
              clear hkS eR hrx hnx hfx hkx
              go_wp2
              have r1 := HR1.out
              refine bodyPost_ret (v := .tuple #[.agg #[.slice (some ⟨g, 0, none⟩) 5 c], .bool true]) (by simp [results, Try.results51, go_sem, r1]) rfl ?_
              exact HE.out
            · have hb : (f % (2 * (n2 : Int)) != 0) = true := by simpa using hc
              have hge2 := hge hc
              have hw3 : IntKind.i64.wrap (f - (n2 : Int)) = f - (n2 : Int) := by rw [IntKind.wrap_i64]; omega
              clear hge
              go_wp2_with (first | (go_at_call 38; refine (HLN.out _).mono ?_; rintro e w_ ⟨rfl, rfl⟩) | (go_at_call 39; refine (HHA2.out _ (Below.refl _ _)).mono ?_; rintro e w_ ⟨rfl, rfl⟩))
              have HPU := hd (fun X (hX : Below wr.heap.size wr X) => l15Put_any _ y bu f X (gv_IntS.below hou hX) (by omega))
              clear hy hou
              go_wp2_with fail
              refine wp_region_held_drew (S := (fun X => Keep [g] W2 X ∧ X.cell? ⟨w.heap.size, 0, none⟩ = some (.slice (some ⟨g, 0, none⟩) 5 c))) (by kernel_rfl) ?_ (fun hHeld => ?_)
              · exact HSX.out _ hkeep.drew
              obtain ⟨w0, hw0⟩ : ∃ X, wr.drew = X := ⟨_, rfl⟩
              have hKw0 : Keep [g] W2 w0 := by rw [← hw0]; exact hkeep.drew
              have hB0 : Below wr.heap.size wr w0 := by rw [← hw0]; exact (Below.refl _ _).drew
              have hrow0 := hrow.out.keep (good_pe gv_IntS) (Keep.of_below [] hB0) (by simp)
              have hcu0 := (hB0.cell (p := ⟨g, o, none⟩) hgl).trans hcu
              have hz0 := hB0.size
              rw [hw0] at hHeld ⊢
              clear hw0
              refine wpAnyH_take (i := 0) (oi := ⟨_, _, _, _, _, _⟩) (v := ?_) rfl (by kernel_rfl) (by kernel_rfl) (by kernel_rfl) (fun _ _ _ h => h) (Or.inl ⟨by rfl, ?_⟩) (by assumption) ?_
              rotate_left; · (intro w hSw; (try dsimp only at hSw); go_simp; try with_reducible rfl)
              try simp only [Act.put, List.setIfInBounds_toArray, List.set_cons_zero, List.set_cons_succ]
              refine wpAnyH_take (i := 1) (oi := ⟨_, _, _, _, _, _⟩) (v := ?_) rfl (by kernel_rfl) (by kernel_rfl) (by kernel_rfl) (fun _ _ _ h => h) (Or.inl ⟨by rfl, ?_⟩) (by assumption) ?_
              rotate_left; · (intro w hSw; (try dsimp only at hSw); go_simp; try with_reducible rfl)
              try simp only [Act.put, List.setIfInBounds_toArray, List.set_cons_zero, List.set_cons_succ]
              refine wpAnyH_take (i := 2) (oi := ⟨_, _, _, _, _, _⟩) (v := ?_) rfl (by kernel_rfl) (by kernel_rfl) (by kernel_rfl) (fun _ _ _ h => h) (Or.inl ⟨by rfl, ?_⟩) (by assumption) ?_
              rotate_left; · (intro w hSw; (try dsimp only at hSw); go_simp; try with_reducible rfl)
              try simp only [Act.put, List.setIfInBounds_toArray, List.set_cons_zero, List.set_cons_succ]
              refine wpAnyH_take (i := 3) (oi := ⟨_, _, _, _, _, _⟩) (v := ?_) rfl (by kernel_rfl) (by kernel_rfl) (by kernel_rfl) (fun _ _ _ h => h) (Or.inl ⟨by rfl, ?_⟩) (by assumption) ?_
              rotate_left; · (intro w hSw; (try dsimp only at hSw); go_simp; try with_reducible rfl)
              try simp only [Act.put, List.setIfInBounds_toArray, List.set_cons_zero, List.set_cons_succ]
              refine wpAnyH_take (i := 4) (oi := ⟨_, _, _, _, _, _⟩) (v := ?_) rfl (by kernel_rfl) (by kernel_rfl) (by kernel_rfl) (fun _ _ _ h => h) (Or.inl ⟨by rfl, ?_⟩) (by assumption) ?_
              rotate_left; · (intro w hSw; (try dsimp only at hSw); go_simp; try with_reducible rfl)
              try simp only [Act.put, List.setIfInBounds_toArray, List.set_cons_zero, List.set_cons_succ]
              refine wpAnyH_take (i := 5) (oi := ⟨_, _, _, _, _, _⟩) (v := ?_) rfl (by kernel_rfl) (by kernel_rfl) (by kernel_rfl) (fun _ _ _ h => h) (Or.inl ⟨by rfl, ?_⟩) (by assumption) ?_
              rotate_left; · (intro w hSw; (try dsimp only at hSw); go_simp; try with_reducible rfl)
              try simp only [Act.put, List.setIfInBounds_toArray, List.set_cons_zero, List.set_cons_succ]
              refine wpAnyH_take (i := 6) (oi := ⟨_, _, _, _, _, _⟩) (v := ?_) rfl (by kernel_rfl) (by kernel_rfl) (by kernel_rfl) (fun _ _ _ h => h) (Or.inl ⟨by rfl, ?_⟩) (by assumption) ?_
              rotate_left; · (intro w hSw; (try dsimp only at hSw); go_simp; try with_reducible rfl)
              try simp only [Act.put, List.setIfInBounds_toArray, List.set_cons_zero, List.set_cons_succ]
              refine wpAnyH_take (i := 8) (oi := ⟨_, _, _, _, _, _⟩) (v := ?_) rfl (by kernel_rfl) (by kernel_rfl) (by kernel_rfl) (fun _ _ _ h => h) (Or.inl ⟨by rfl, ?_⟩) (by assumption) ?_
              rotate_left; · (intro w hSw; (try dsimp only at hSw); go_simp; try with_reducible rfl)
              try simp only [Act.put, List.setIfInBounds_toArray, List.set_cons_zero, List.set_cons_succ]
              refine wpAnyH_ready (rs := [7]) (by kernel_rfl) (by simp) ?_
              refine AllReadyH.cons (o := ⟨_, _, _, _, _, _⟩) rfl (fun K hK => ?_) AllReadyH.nil
              have hcu1 := ((Below.refl _ _).cell (p := ⟨g, o, none⟩) (by show g < _; omega)).trans hcu0
              go_simp
              refine hK.out _ _ ?_ (fun hHeld2 => ?_)
              · ((try dsimp only); exact HSX.out _ hKw0)
              clear hK K hHeld
              try simp only [Act.put, List.setIfInBounds_toArray, List.set_cons_zero, List.set_cons_succ]
              have hHeld := hHeld2; clear hHeld2
              refine wpAnyH_ready (rs := [9]) (by kernel_rfl) (by simp) ?_
              refine AllReadyH.cons (o := ⟨_, _, _, _, _, _⟩) rfl (fun K hK => ?_) AllReadyH.nil
              go_simp
              go_at_call 70
              refine (HPU.out _ (btr (Below.refl _ _) hB0)).mono ?_
              rintro e wP ⟨uP, dP, rfl, hrP, hnP, hsP, hwP⟩
              obtain ⟨aP, cP, rfl⟩ := gv_IntS.slice hrP
              have hKwP : Keep [g] W2 wP := hKw0.trans ((Keep.of_below [] hwP).mono (by simp))
              try go_wp2_with fail
              refine hK.out _ _ ?_ (fun hHeld2 => ?_)
              · ((try dsimp only); exact HSX.out _ hKwP)
              clear hK K hHeld
              try simp only [Act.put, List.setIfInBounds_toArray, List.set_cons_zero, List.set_cons_succ]
              have hHeld := hHeld2; clear hHeld2
              refine wpAnyH_take (i := 10) (oi := ⟨_, _, _, _, _, _⟩) (v := ?_) rfl (by kernel_rfl) (by kernel_rfl) (by kernel_rfl) (fun _ _ _ h => h) (Or.inl ⟨by rfl, ?_⟩) (by assumption) ?_
              rotate_left; · (intro w hSw; (try dsimp only at hSw); go_simp; try with_reducible rfl)
              try simp only [Act.put, List.setIfInBounds_toArray, List.set_cons_zero, List.set_cons_succ]
              refine wpAnyH_ready (rs := [11]) (by kernel_rfl) (by simp) ?_
              refine AllReadyH.cons (o := ⟨_, _, _, _, _, _⟩) rfl (fun K hK => ?_) AllReadyH.nil
              have hrw : OIntSS wP (.slice (some ⟨g, 0, none⟩) Lc.length c) Lc bs' := hrow0.keep (good_pe gv_IntS) (Keep.of_below [] hwP) (by simp)
              obtain ⟨xs_, bss_, hown_, _⟩ := id hrw
              have m5 : ∃ u, wP.cell? ⟨g, o, none⟩ = some u := ⟨_, (hwP.cell (p := ⟨g, o, none⟩) (by show g < _; omega)).trans hcu0⟩
              obtain ⟨u5, m5⟩ := m5
              have m6 : wP.frozen? ⟨g, o, none⟩ = false := hown_.frozenAt o
              clear hown_
              go_simp
              refine hK.out _ _ ?_ (fun hHeld2 => ?_)
              · ((try dsimp only); exact HSX.out _ (hKwP.trans (Keep.set _ _ _ _ _ (by simp))))
              clear hK K hHeld
              try simp only [Act.put, List.setIfInBounds_toArray, List.set_cons_zero, List.set_cons_succ]
              have hHeld := hHeld2; clear hHeld2
              refine wpAnyH_done (by kernel_rfl) ?_ _
              have HPX := HA.put ⟨bs', hrow.out, hnd, hfr, hkeep⟩ (btr hwP hB0) hrP hnP (fun y hy => by have := hsP y hy; omega) (show o < Lc.length by omega) hkeep.size
              have hLX : (Lc.set o (putL y f)).length = 5 := by simp [hLc]
              have HGM : Hid (giveM L f0 = (Lc.set o (putL y f), true)) := HGF
              obtain ⟨X, hX⟩ : ∃ X, wP.setCell ⟨g, o, none⟩ (.slice aP (putL y f).length cP) = X := ⟨_, rfl⟩
              rw [hX] at HPX hHeld ⊢
              clear hX
              have HX := hd HPX
              obtain ⟨bsx, hrx, hnx, hfx, hkx⟩ := HPX
              have c1x := (HSX.out X hkx).2
              have eR := (hkx.block (w.heap.size + 1) (by omega) (by simp; omega)).trans HE1.out
              have cR : X.cell? ⟨w.heap.size + 1, 0, none⟩ = some (.slice none 0 0) := by rw [cell_of_row X _ 0 _ _ (0, 0) eR]; rfl
              have fR := frozen_of_row X _ 0 _ _ eR
              have hkS := Keep.set X (w.heap.size + 1) 0 (.slice (some ⟨g, 0, none⟩) 5 c) [w.heap.size + 1] (by simp)
              have HE : Hid (GvP (.slice (some ⟨g, 0, none⟩) 5 c) L f0 bs g w (.returned (.tuple #[.agg #[.slice (some ⟨g, 0, none⟩) 5 c], .bool true])) (X.setCell ⟨w.heap.size + 1, 0, none⟩ (.slice (some ⟨g, 0, none⟩) 5 c))) := hd (by
                refine ⟨bsx, by rw [HGM.out], ?_, hnx, fun y hy => (hfx y hy).imp id (fun h1 => by omega), ?_⟩
                · rw [HGM.out]
                  have h1 := hrx.keep (good_pe gv_IntS) hkS (fun y hy hyr => by simp at hyr; rcases hfx y hy with h2 | h2
                                                                                · have := HBL.out y h2; omega
                                                                                · omega)
                  rw [hLX] at h1
                  exact h1
                · exact ((Keep.of_below [g] HB2.out).trans hkx).then hkS (fun y hy => .inr (by simp at hy; omega)))
              have HR1 := hd (show (X.setCell ⟨w.heap.size + 1, 0, none⟩ (.slice (some ⟨g, 0, none⟩) 5 c)).cell? ⟨w.heap.size + 1, 0, none⟩ = some (.slice (some ⟨g, 0, none⟩) 5 c) from by rw [cell_of_row _ _ 0 _ _ (0, 0) (heap_setCell_same X _ 0 _ _ _ eR)]; rfl)
              clear hkS eR hrx hnx hfx hkx
              go_wp2
              have r1 := HR1.out
              refine bodyPost_ret (v := .tuple #[.agg #[.slice (some ⟨g, 0, none⟩) 5 c], .bool true]) (by simp [results, Try.results51, go_sem, r1]) rfl ?_
              exact HE.out
          | true =>
            rcases hcase with ⟨hc, rfl⟩ | ⟨hc, rfl⟩
            · have hb : (f % (2 * (n2 : Int)) != 0) = false := by simpa using hc
              have hlf : decide (f + (n2 : Int) < f) = false := decide_eq_false (by omega)
              have HM2 : Hid (f % ((2 ^ (o + 1) : Nat) : Int) = 0) := hd (by rw [Nat.pow_succ, ← HO2.out, Nat.mul_comm]; exact_mod_cast hc)
              have HC2 : Hid (meetL (4 - (o + 1)) (o + 1) f (Lc.set o yw) = F) := hd (by
                have h1 := HC.out
                obtain ⟨k, hk⟩ : ∃ k, 4 - o = k + 1 := ⟨3 - o, by omega⟩
                rw [hk] at h1
                unfold meetL at h1
                rw [HY.out, HX2.out, HQV.out, if_pos rfl, if_neg (by omega), HYW.out] at h1
                rw [show 4 - (o + 1) = k by omega]
                exact h1)
              obtain ⟨fN, hfN⟩ : ∃ fN, f = fN := ⟨_, rfl⟩
              have hfN2 : 0 ≤ f ∧ f < 16 := ⟨hf0, hf1⟩
              clear hge hfN
              clear hy hou
              go_wp2_with (first | (go_at_call 38; refine (HLN.out _).mono ?_; rintro e w_ ⟨rfl, rfl⟩) | (go_at_call 39; refine (HHA2.out _ (Below.refl _ _)).mono ?_; rintro e w_ ⟨rfl, rfl⟩))
              refine wp_region_held_drew (S := (fun X => Keep [g] W2 X ∧ X.cell? ⟨w.heap.size, 0, none⟩ = some (.slice (some ⟨g, 0, none⟩) 5 c))) (by kernel_rfl) ?_ (fun hHeld => ?_)
              · exact HSX.out _ hkeep.drew
              obtain ⟨w0, hw0⟩ : ∃ X, wr.drew = X := ⟨_, rfl⟩
              have hKw0 : Keep [g] W2 w0 := by rw [← hw0]; exact hkeep.drew
              have hB0 : Below wr.heap.size wr w0 := by rw [← hw0]; exact (Below.refl _ _).drew
              have hrow0 := hrow.out.keep (good_pe gv_IntS) (Keep.of_below [] hB0) (by simp)
              have hcu0 := (hB0.cell (p := ⟨g, o, none⟩) hgl).trans hcu
              have hz0 := hB0.size
              rw [hw0] at hHeld ⊢
              clear hw0
              refine wpAnyH_take (i := 0) (oi := ⟨_, _, _, _, _, _⟩) (v := ?_) rfl (by kernel_rfl) (by kernel_rfl) (by kernel_rfl) (fun _ _ _ h => h) (Or.inl ⟨by rfl, ?_⟩) (by assumption) ?_
              rotate_left; · (intro w hSw; (try dsimp only at hSw); go_simp; try with_reducible rfl)
              try simp only [Act.put, List.setIfInBounds_toArray, List.set_cons_zero, List.set_cons_succ]
              refine wpAnyH_take (i := 1) (oi := ⟨_, _, _, _, _, _⟩) (v := ?_) rfl (by kernel_rfl) (by kernel_rfl) (by kernel_rfl) (fun _ _ _ h => h) (Or.inl ⟨by rfl, ?_⟩) (by assumption) ?_
              rotate_left; · (intro w hSw; (try dsimp only at hSw); go_simp; try with_reducible rfl)
              try simp only [Act.put, List.setIfInBounds_toArray, List.set_cons_zero, List.set_cons_succ]
              refine wpAnyH_take (i := 2) (oi := ⟨_, _, _, _, _, _⟩) (v := ?_) rfl (by kernel_rfl) (by kernel_rfl) (by kernel_rfl) (fun _ _ _ h => h) (Or.inl ⟨by rfl, ?_⟩) (by assumption) ?_
              rotate_left; · (intro w hSw; (try dsimp only at hSw); go_simp; try with_reducible rfl)
              try simp only [Act.put, List.setIfInBounds_toArray, List.set_cons_zero, List.set_cons_succ]
              refine wpAnyH_take (i := 3) (oi := ⟨_, _, _, _, _, _⟩) (v := ?_) rfl (by kernel_rfl) (by kernel_rfl) (by kernel_rfl) (fun _ _ _ h => h) (Or.inl ⟨by rfl, ?_⟩) (by assumption) ?_
              rotate_left; · (intro w hSw; (try dsimp only at hSw); go_simp; try with_reducible rfl)
              try simp only [Act.put, List.setIfInBounds_toArray, List.set_cons_zero, List.set_cons_succ]
              refine wpAnyH_take (i := 4) (oi := ⟨_, _, _, _, _, _⟩) (v := ?_) rfl (by kernel_rfl) (by kernel_rfl) (by kernel_rfl) (fun _ _ _ h => h) (Or.inl ⟨by rfl, ?_⟩) (by assumption) ?_
              rotate_left; · (intro w hSw; (try dsimp only at hSw); go_simp; try with_reducible rfl)
              try simp only [Act.put, List.setIfInBounds_toArray, List.set_cons_zero, List.set_cons_succ]
              refine wpAnyH_take (i := 5) (oi := ⟨_, _, _, _, _, _⟩) (v := ?_) rfl (by kernel_rfl) (by kernel_rfl) (by kernel_rfl) (fun _ _ _ h => h) (Or.inl ⟨by rfl, ?_⟩) (by assumption) ?_
              rotate_left; · (intro w hSw; (try dsimp only at hSw); go_simp; try with_reducible rfl)
              try simp only [Act.put, List.setIfInBounds_toArray, List.set_cons_zero, List.set_cons_succ]
              refine wpAnyH_take (i := 6) (oi := ⟨_, _, _, _, _, _⟩) (v := ?_) rfl (by kernel_rfl) (by kernel_rfl) (by kernel_rfl) (fun _ _ _ h => h) (Or.inl ⟨by rfl, ?_⟩) (by assumption) ?_
              rotate_left; · (intro w hSw; (try dsimp only at hSw); go_simp; try with_reducible rfl)
              try simp only [Act.put, List.setIfInBounds_toArray, List.set_cons_zero, List.set_cons_succ]
              refine wpAnyH_take (i := 8) (oi := ⟨_, _, _, _, _, _⟩) (v := ?_) rfl (by kernel_rfl) (by kernel_rfl) (by kernel_rfl) (fun _ _ _ h => h) (Or.inl ⟨by rfl, ?_⟩) (by assumption) ?_
              rotate_left; · (intro w hSw; (try dsimp only at hSw); go_simp; try with_reducible rfl)
              try simp only [Act.put, List.setIfInBounds_toArray, List.set_cons_zero, List.set_cons_succ]
              refine wpAnyH_ready (rs := [7]) (by kernel_rfl) (by simp) ?_
              refine AllReadyH.cons (o := ⟨_, _, _, _, _, _⟩) rfl (fun K hK => ?_) AllReadyH.nil
              have hcu1 := ((Below.refl _ _).cell (p := ⟨g, o, none⟩) (by show g < _; omega)).trans hcu0
              go_simp
              refine hK.out _ _ ?_ (fun hHeld2 => ?_)
              · ((try dsimp only); exact HSX.out _ hKw0)
              clear hK K hHeld
              try simp only [Act.put, List.setIfInBounds_toArray, List.set_cons_zero, List.set_cons_succ]
              have hHeld := hHeld2; clear hHeld2
              refine wpAnyH_ready (rs := [9]) (by kernel_rfl) (by simp) ?_
              refine AllReadyH.cons (o := ⟨_, _, _, _, _, _⟩) rfl (fun K hK => ?_) AllReadyH.nil
              go_simp
              go_at_call 73
              refine (HWI.out _ (btr (Below.refl _ _) hB0)).mono ?_
              rintro e wP ⟨uP, dP, rfl, hrP, hnP, hsP, hwP⟩
              obtain ⟨aP, cP, rfl⟩ := gv_IntS.slice hrP
              have hKwP : Keep [g] W2 wP := hKw0.trans ((Keep.of_below [] hwP).mono (by simp))
              try go_wp2_with fail
              refine hK.out _ _ ?_ (fun hHeld2 => ?_)
              · ((try dsimp only); exact HSX.out _ hKwP)
              clear hK K hHeld
              try simp only [Act.put, List.setIfInBounds_toArray, List.set_cons_zero, List.set_cons_succ]
              have hHeld := hHeld2; clear hHeld2
              refine wpAnyH_take (i := 10) (oi := ⟨_, _, _, _, _, _⟩) (v := ?_) rfl (by kernel_rfl) (by kernel_rfl) (by kernel_rfl) (fun _ _ _ h => h) (Or.inl ⟨by rfl, ?_⟩) (by assumption) ?_
              rotate_left; · (intro w hSw; (try dsimp only at hSw); go_simp; try with_reducible rfl)
              try simp only [Act.put, List.setIfInBounds_toArray, List.set_cons_zero, List.set_cons_succ]
              refine wpAnyH_ready (rs := [11]) (by kernel_rfl) (by simp) ?_
              refine AllReadyH.cons (o := ⟨_, _, _, _, _, _⟩) rfl (fun K hK => ?_) AllReadyH.nil
              have hrw : OIntSS wP (.slice (some ⟨g, 0, none⟩) Lc.length c) Lc bs' := hrow0.keep (good_pe gv_IntS) (Keep.of_below [] hwP) (by simp)
              obtain ⟨xs_, bss_, hown_, _⟩ := id hrw
              have m5 : ∃ u, wP.cell? ⟨g, o, none⟩ = some u := ⟨_, (hwP.cell (p := ⟨g, o, none⟩) (by show g < _; omega)).trans hcu0⟩
              obtain ⟨u5, m5⟩ := m5
              have m6 : wP.frozen? ⟨g, o, none⟩ = false := hown_.frozenAt o
              clear hown_
              go_simp
              refine hK.out _ _ ?_ (fun hHeld2 => ?_)
              · ((try dsimp only); exact HSX.out _ (hKwP.trans (Keep.set _ _ _ _ _ (by simp))))
              clear hK K hHeld
              try simp only [Act.put, List.setIfInBounds_toArray, List.set_cons_zero, List.set_cons_succ]
              have hHeld := hHeld2; clear hHeld2
              refine wpAnyH_done (by kernel_rfl) ?_ _
              have HP10 := HA.put ⟨bs', hrow.out, hnd, hfr, hkeep⟩ (btr hwP hB0) hrP hnP (fun y hy => by have := hsP y hy; omega) (show o < Lc.length by omega) hkeep.size
              replace HP10 := hd HP10
              have HLB2 : Hid (∀ l ∈ Lc.set o yw, l.length ≤ 1100000) := hd (fun l hl => by
                rcases List.mem_or_eq_of_mem_set hl with h1 | h1
                · exact HLB.out l h1
                · subst h1; exact hywl)
              go_wp2_with fail
              go_roundw
              case rel => exact ⟨o + 1, f, Lc.set o yw, by omega, by go_num, rfl, hfN2, HM2, by simp [hLc], HC2, HLB2, HP10⟩
              case measure => simp [intOf]; omega
            · have hb : (f % (2 * (n2 : Int)) != 0) = true := by simpa using hc
              have hge2 := hge hc
              have hw3 : IntKind.i64.wrap (f - (n2 : Int)) = f - (n2 : Int) := by rw [IntKind.wrap_i64]; omega
              have hlf : decide (f - (n2 : Int) < f) = true := decide_eq_true (by omega)
              have HM2 : Hid ((f - (n2 : Int)) % ((2 ^ (o + 1) : Nat) : Int) = 0) := hd (by
                have h1 := HM.out
                rw [HO2.out] at hc ⊢
                exact odd_step f o hlt h1 hc)
              have HC2 : Hid (meetL (4 - (o + 1)) (o + 1) (f - (n2 : Int)) (Lc.set o yw) = F) := hd (by
                have h1 := HC.out
                obtain ⟨k, hk⟩ : ∃ k, 4 - o = k + 1 := ⟨3 - o, by omega⟩
                rw [hk] at h1
                unfold meetL at h1
                rw [HY.out, HX2.out, HQV.out, if_pos rfl, if_pos (by omega), HYW.out] at h1
                rw [show 4 - (o + 1) = k by omega]
                exact h1)
              have hfN2 : 0 ≤ f - (n2 : Int) ∧ f - (n2 : Int) < 16 := by omega
              clear hge
              clear hy hou
              go_wp2_with (first | (go_at_call 38; refine (HLN.out _).mono ?_; rintro e w_ ⟨rfl, rfl⟩) | (go_at_call 39; refine (HHA2.out _ (Below.refl _ _)).mono ?_; rintro e w_ ⟨rfl, rfl⟩))
              refine wp_region_held_drew (S := (fun X => Keep [g] W2 X ∧ X.cell? ⟨w.heap.size, 0, none⟩ = some (.slice (some ⟨g, 0, none⟩) 5 c))) (by kernel_rfl) ?_ (fun hHeld => ?_)
              · exact HSX.out _ hkeep.drew
              obtain ⟨w0, hw0⟩ : ∃ X, wr.drew = X := ⟨_, rfl⟩
              have hKw0 : Keep [g] W2 w0 := by rw [← hw0]; exact hkeep.drew
              have hB0 : Below wr.heap.size wr w0 := by rw [← hw0]; exact (Below.refl _ _).drew
              have hrow0 := hrow.out.keep (good_pe gv_IntS) (Keep.of_below [] hB0) (by simp)
              have hcu0 := (hB0.cell (p := ⟨g, o, none⟩) hgl).trans hcu
              have hz0 := hB0.size
              rw [hw0] at hHeld ⊢
              clear hw0
              refine wpAnyH_take (i := 0) (oi := ⟨_, _, _, _, _, _⟩) (v := ?_) rfl (by kernel_rfl) (by kernel_rfl) (by kernel_rfl) (fun _ _ _ h => h) (Or.inl ⟨by rfl, ?_⟩) (by assumption) ?_
              rotate_left; · (intro w hSw; (try dsimp only at hSw); go_simp; try with_reducible rfl)
              try simp only [Act.put, List.setIfInBounds_toArray, List.set_cons_zero, List.set_cons_succ]
              refine wpAnyH_take (i := 1) (oi := ⟨_, _, _, _, _, _⟩) (v := ?_) rfl (by kernel_rfl) (by kernel_rfl) (by kernel_rfl) (fun _ _ _ h => h) (Or.inl ⟨by rfl, ?_⟩) (by assumption) ?_
              rotate_left; · (intro w hSw; (try dsimp only at hSw); go_simp; try with_reducible rfl)
              try simp only [Act.put, List.setIfInBounds_toArray, List.set_cons_zero, List.set_cons_succ]
              refine wpAnyH_take (i := 2) (oi := ⟨_, _, _, _, _, _⟩) (v := ?_) rfl (by kernel_rfl) (by kernel_rfl) (by kernel_rfl) (fun _ _ _ h => h) (Or.inl ⟨by rfl, ?_⟩) (by assumption) ?_
              rotate_left; · (intro w hSw; (try dsimp only at hSw); go_simp; try with_reducible rfl)
              try simp only [Act.put, List.setIfInBounds_toArray, List.set_cons_zero, List.set_cons_succ]
              refine wpAnyH_take (i := 3) (oi := ⟨_, _, _, _, _, _⟩) (v := ?_) rfl (by kernel_rfl) (by kernel_rfl) (by kernel_rfl) (fun _ _ _ h => h) (Or.inl ⟨by rfl, ?_⟩) (by assumption) ?_
              rotate_left; · (intro w hSw; (try dsimp only at hSw); go_simp; try with_reducible rfl)
              try simp only [Act.put, List.setIfInBounds_toArray, List.set_cons_zero, List.set_cons_succ]
              refine wpAnyH_take (i := 4) (oi := ⟨_, _, _, _, _, _⟩) (v := ?_) rfl (by kernel_rfl) (by kernel_rfl) (by kernel_rfl) (fun _ _ _ h => h) (Or.inl ⟨by rfl, ?_⟩) (by assumption) ?_
              rotate_left; · (intro w hSw; (try dsimp only at hSw); go_simp; try with_reducible rfl)
              try simp only [Act.put, List.setIfInBounds_toArray, List.set_cons_zero, List.set_cons_succ]
              refine wpAnyH_take (i := 5) (oi := ⟨_, _, _, _, _, _⟩) (v := ?_) rfl (by kernel_rfl) (by kernel_rfl) (by kernel_rfl) (fun _ _ _ h => h) (Or.inl ⟨by rfl, ?_⟩) (by assumption) ?_
              rotate_left; · (intro w hSw; (try dsimp only at hSw); go_simp; try with_reducible rfl)
              try simp only [Act.put, List.setIfInBounds_toArray, List.set_cons_zero, List.set_cons_succ]
              refine wpAnyH_take (i := 6) (oi := ⟨_, _, _, _, _, _⟩) (v := ?_) rfl (by kernel_rfl) (by kernel_rfl) (by kernel_rfl) (fun _ _ _ h => h) (Or.inl ⟨by rfl, ?_⟩) (by assumption) ?_
              rotate_left; · (intro w hSw; (try dsimp only at hSw); go_simp; try with_reducible rfl)
              try simp only [Act.put, List.setIfInBounds_toArray, List.set_cons_zero, List.set_cons_succ]
              refine wpAnyH_take (i := 8) (oi := ⟨_, _, _, _, _, _⟩) (v := ?_) rfl (by kernel_rfl) (by kernel_rfl) (by kernel_rfl) (fun _ _ _ h => h) (Or.inl ⟨by rfl, ?_⟩) (by assumption) ?_
              rotate_left; · (intro w hSw; (try dsimp only at hSw); go_simp; try with_reducible rfl)
              try simp only [Act.put, List.setIfInBounds_toArray, List.set_cons_zero, List.set_cons_succ]
              refine wpAnyH_ready (rs := [7]) (by kernel_rfl) (by simp) ?_
              refine AllReadyH.cons (o := ⟨_, _, _, _, _, _⟩) rfl (fun K hK => ?_) AllReadyH.nil
              have hcu1 := ((Below.refl _ _).cell (p := ⟨g, o, none⟩) (by show g < _; omega)).trans hcu0
              go_simp
              refine hK.out _ _ ?_ (fun hHeld2 => ?_)
              · ((try dsimp only); exact HSX.out _ hKw0)
              clear hK K hHeld
              try simp only [Act.put, List.setIfInBounds_toArray, List.set_cons_zero, List.set_cons_succ]
              have hHeld := hHeld2; clear hHeld2
              refine wpAnyH_ready (rs := [9]) (by kernel_rfl) (by simp) ?_
              refine AllReadyH.cons (o := ⟨_, _, _, _, _, _⟩) rfl (fun K hK => ?_) AllReadyH.nil
              go_simp
              go_at_call 73
              refine (HWI.out _ (btr (Below.refl _ _) hB0)).mono ?_
              rintro e wP ⟨uP, dP, rfl, hrP, hnP, hsP, hwP⟩
              obtain ⟨aP, cP, rfl⟩ := gv_IntS.slice hrP
              have hKwP : Keep [g] W2 wP := hKw0.trans ((Keep.of_below [] hwP).mono (by simp))
              try go_wp2_with fail
              refine hK.out _ _ ?_ (fun hHeld2 => ?_)
              · ((try dsimp only); exact HSX.out _ hKwP)
              clear hK K hHeld
              try simp only [Act.put, List.setIfInBounds_toArray, List.set_cons_zero, List.set_cons_succ]
              have hHeld := hHeld2; clear hHeld2
              refine wpAnyH_take (i := 10) (oi := ⟨_, _, _, _, _, _⟩) (v := ?_) rfl (by kernel_rfl) (by kernel_rfl) (by kernel_rfl) (fun _ _ _ h => h) (Or.inl ⟨by rfl, ?_⟩) (by assumption) ?_
              rotate_left; · (intro w hSw; (try dsimp only at hSw); go_simp; try with_reducible rfl)
              try simp only [Act.put, List.setIfInBounds_toArray, List.set_cons_zero, List.set_cons_succ]
              refine wpAnyH_ready (rs := [11]) (by kernel_rfl) (by simp) ?_
              refine AllReadyH.cons (o := ⟨_, _, _, _, _, _⟩) rfl (fun K hK => ?_) AllReadyH.nil
              have hrw : OIntSS wP (.slice (some ⟨g, 0, none⟩) Lc.length c) Lc bs' := hrow0.keep (good_pe gv_IntS) (Keep.of_below [] hwP) (by simp)
              obtain ⟨xs_, bss_, hown_, _⟩ := id hrw
              have m5 : ∃ u, wP.cell? ⟨g, o, none⟩ = some u := ⟨_, (hwP.cell (p := ⟨g, o, none⟩) (by show g < _; omega)).trans hcu0⟩
              obtain ⟨u5, m5⟩ := m5
              have m6 : wP.frozen? ⟨g, o, none⟩ = false := hown_.frozenAt o
              clear hown_
              go_simp
              refine hK.out _ _ ?_ (fun hHeld2 => ?_)
              · ((try dsimp only); exact HSX.out _ (hKwP.trans (Keep.set _ _ _ _ _ (by simp))))
              clear hK K hHeld
              try simp only [Act.put, List.setIfInBounds_toArray, List.set_cons_zero, List.set_cons_succ]
              have hHeld := hHeld2; clear hHeld2
              refine wpAnyH_done (by kernel_rfl) ?_ _
              have HP10 := HA.put ⟨bs', hrow.out, hnd, hfr, hkeep⟩ (btr hwP hB0) hrP hnP (fun y hy => by have := hsP y hy; omega) (show o < Lc.length by omega) hkeep.size
              replace HP10 := hd HP10
              have HLB2 : Hid (∀ l ∈ Lc.set o yw, l.length ≤ 1100000) := hd (fun l hl => by
                rcases List.mem_or_eq_of_mem_set hl with h1 | h1
                · exact HLB.out l h1
                · subst h1; exact hywl)
              go_wp2_with fail
              go_roundw
              case rel => exact ⟨o + 1, (f - (n2 : Int)), Lc.set o yw, by omega, by go_num, rfl, hfN2, HM2, by simp [hLc], HC2, HLB2, HP10⟩
              case measure => simp [intOf]; omega
        · obtain rfl : o = 4 := by omega
          have HGF : Hid (giveM L f0 = (Lc.set 4 (putL y f), true)) := hd (by
            have h1 : meetL 0 4 f Lc = F := HC.out
            unfold meetL at h1
            rw [HGF0.out, ← h1, HY.out])
          have HPU := hd (fun X (hX : Below wr.heap.size wr X) => l15Put_any _ y bu f X (gv_IntS.below hou hX) (by omega))
          clear hy hou
          go_wp2_with fail
          refine wp_region_held_drew (S := (fun X => Keep [g] W2 X ∧ X.cell? ⟨w.heap.size, 0, none⟩ = some (.slice (some ⟨g, 0, none⟩) 5 c))) (by kernel_rfl) ?_ (fun hHeld => ?_)
          · exact HSX.out _ hkeep.drew
          obtain ⟨w0, hw0⟩ : ∃ X, wr.drew = X := ⟨_, rfl⟩
          have hKw0 : Keep [g] W2 w0 := by rw [← hw0]; exact hkeep.drew
          have hB0 : Below wr.heap.size wr w0 := by rw [← hw0]; exact (Below.refl _ _).drew
          have hrow0 := hrow.out.keep (good_pe gv_IntS) (Keep.of_below [] hB0) (by simp)
          have hcu0 := (hB0.cell (p := ⟨g, 4, none⟩) hgl).trans hcu
          have hz0 := hB0.size
          rw [hw0] at hHeld ⊢
          clear hw0
          refine wpAnyH_take (i := 0) (oi := ⟨_, _, _, _, _, _⟩) (v := ?_) rfl (by kernel_rfl) (by kernel_rfl) (by kernel_rfl) (fun _ _ _ h => h) (Or.inl ⟨by rfl, ?_⟩) (by assumption) ?_
          rotate_left; · (intro w hSw; (try dsimp only at hSw); go_simp; try with_reducible rfl)
          try simp only [Act.put, List.setIfInBounds_toArray, List.set_cons_zero, List.set_cons_succ]
          refine wpAnyH_take (i := 1) (oi := ⟨_, _, _, _, _, _⟩) (v := ?_) rfl (by kernel_rfl) (by kernel_rfl) (by kernel_rfl) (fun _ _ _ h => h) (Or.inl ⟨by rfl, ?_⟩) (by assumption) ?_
          rotate_left; · (intro w hSw; (try dsimp only at hSw); go_simp; try with_reducible rfl)
          try simp only [Act.put, List.setIfInBounds_toArray, List.set_cons_zero, List.set_cons_succ]
          refine wpAnyH_take (i := 2) (oi := ⟨_, _, _, _, _, _⟩) (v := ?_) rfl (by kernel_rfl) (by kernel_rfl) (by kernel_rfl) (fun _ _ _ h => h) (Or.inl ⟨by rfl, ?_⟩) (by assumption) ?_
          rotate_left; · (intro w hSw; (try dsimp only at hSw); go_simp; try with_reducible rfl)
          try simp only [Act.put, List.setIfInBounds_toArray, List.set_cons_zero, List.set_cons_succ]
          refine wpAnyH_take (i := 3) (oi := ⟨_, _, _, _, _, _⟩) (v := ?_) rfl (by kernel_rfl) (by kernel_rfl) (by kernel_rfl) (fun _ _ _ h => h) (Or.inl ⟨by rfl, ?_⟩) (by assumption) ?_
          rotate_left; · (intro w hSw; (try dsimp only at hSw); go_simp; try with_reducible rfl)
          try simp only [Act.put, List.setIfInBounds_toArray, List.set_cons_zero, List.set_cons_succ]
          refine wpAnyH_take (i := 4) (oi := ⟨_, _, _, _, _, _⟩) (v := ?_) rfl (by kernel_rfl) (by kernel_rfl) (by kernel_rfl) (fun _ _ _ h => h) (Or.inl ⟨by rfl, ?_⟩) (by assumption) ?_
          rotate_left; · (intro w hSw; (try dsimp only at hSw); go_simp; try with_reducible rfl)
          try simp only [Act.put, List.setIfInBounds_toArray, List.set_cons_zero, List.set_cons_succ]
          refine wpAnyH_take (i := 5) (oi := ⟨_, _, _, _, _, _⟩) (v := ?_) rfl (by kernel_rfl) (by kernel_rfl) (by kernel_rfl) (fun _ _ _ h => h) (Or.inl ⟨by rfl, ?_⟩) (by assumption) ?_
          rotate_left; · (intro w hSw; (try dsimp only at hSw); go_simp; try with_reducible rfl)
          try simp only [Act.put, List.setIfInBounds_toArray, List.set_cons_zero, List.set_cons_succ]
          refine wpAnyH_take (i := 6) (oi := ⟨_, _, _, _, _, _⟩) (v := ?_) rfl (by kernel_rfl) (by kernel_rfl) (by kernel_rfl) (fun _ _ _ h => h) (Or.inl ⟨by rfl, ?_⟩) (by assumption) ?_
          rotate_left; · (intro w hSw; (try dsimp only at hSw); go_simp; try with_reducible rfl)
          try simp only [Act.put, List.setIfInBounds_toArray, List.set_cons_zero, List.set_cons_succ]
          refine wpAnyH_take (i := 8) (oi := ⟨_, _, _, _, _, _⟩) (v := ?_) rfl (by kernel_rfl) (by kernel_rfl) (by kernel_rfl) (fun _ _ _ h => h) (Or.inl ⟨by rfl, ?_⟩) (by assumption) ?_
          rotate_left; · (intro w hSw; (try dsimp only at hSw); go_simp; try with_reducible rfl)
          try simp only [Act.put, List.setIfInBounds_toArray, List.set_cons_zero, List.set_cons_succ]
          refine wpAnyH_ready (rs := [7]) (by kernel_rfl) (by simp) ?_
          refine AllReadyH.cons (o := ⟨_, _, _, _, _, _⟩) rfl (fun K hK => ?_) AllReadyH.nil
          have hcu1 := ((Below.refl _ _).cell (p := ⟨g, 4, none⟩) (by show g < _; omega)).trans hcu0
          go_simp
          refine hK.out _ _ ?_ (fun hHeld2 => ?_)
          · ((try dsimp only); exact HSX.out _ hKw0)
          clear hK K hHeld
          try simp only [Act.put, List.setIfInBounds_toArray, List.set_cons_zero, List.set_cons_succ]
          have hHeld := hHeld2; clear hHeld2
          refine wpAnyH_ready (rs := [9]) (by kernel_rfl) (by simp) ?_
          refine AllReadyH.cons (o := ⟨_, _, _, _, _, _⟩) rfl (fun K hK => ?_) AllReadyH.nil
          go_simp
          go_at_call 70
          refine (HPU.out _ (btr (Below.refl _ _) hB0)).mono ?_
          rintro e wP ⟨uP, dP, rfl, hrP, hnP, hsP, hwP⟩
          obtain ⟨aP, cP, rfl⟩ := gv_IntS.slice hrP
          have hKwP : Keep [g] W2 wP := hKw0.trans ((Keep.of_below [] hwP).mono (by simp))
          try go_wp2_with fail
          refine hK.out _ _ ?_ (fun hHeld2 => ?_)
          · ((try dsimp only); exact HSX.out _ hKwP)
          clear hK K hHeld
          try simp only [Act.put, List.setIfInBounds_toArray, List.set_cons_zero, List.set_cons_succ]
          have hHeld := hHeld2; clear hHeld2
          refine wpAnyH_take (i := 10) (oi := ⟨_, _, _, _, _, _⟩) (v := ?_) rfl (by kernel_rfl) (by kernel_rfl) (by kernel_rfl) (fun _ _ _ h => h) (Or.inl ⟨by rfl, ?_⟩) (by assumption) ?_
          rotate_left; · (intro w hSw; (try dsimp only at hSw); go_simp; try with_reducible rfl)
          try simp only [Act.put, List.setIfInBounds_toArray, List.set_cons_zero, List.set_cons_succ]
          refine wpAnyH_ready (rs := [11]) (by kernel_rfl) (by simp) ?_
          refine AllReadyH.cons (o := ⟨_, _, _, _, _, _⟩) rfl (fun K hK => ?_) AllReadyH.nil
          have hrw : OIntSS wP (.slice (some ⟨g, 0, none⟩) Lc.length c) Lc bs' := hrow0.keep (good_pe gv_IntS) (Keep.of_below [] hwP) (by simp)
          obtain ⟨xs_, bss_, hown_, _⟩ := id hrw
          have m5 : ∃ u, wP.cell? ⟨g, 4, none⟩ = some u := ⟨_, (hwP.cell (p := ⟨g, 4, none⟩) (by show g < _; omega)).trans hcu0⟩
          obtain ⟨u5, m5⟩ := m5
          have m6 : wP.frozen? ⟨g, 4, none⟩ = false := hown_.frozenAt 4
          clear hown_
          go_simp
          refine hK.out _ _ ?_ (fun hHeld2 => ?_)
          · ((try dsimp only); exact HSX.out _ (hKwP.trans (Keep.set _ _ _ _ _ (by simp))))
          clear hK K hHeld
          try simp only [Act.put, List.setIfInBounds_toArray, List.set_cons_zero, List.set_cons_succ]
          have hHeld := hHeld2; clear hHeld2
          refine wpAnyH_done (by kernel_rfl) ?_ _
          have HPX := HA.put ⟨bs', hrow.out, hnd, hfr, hkeep⟩ (btr hwP hB0) hrP hnP (fun y hy => by have := hsP y hy; omega) (show 4 < Lc.length by omega) hkeep.size
          have hLX : (Lc.set 4 (putL y f)).length = 5 := by simp [hLc]
          have HGM : Hid (giveM L f0 = (Lc.set 4 (putL y f), true)) := HGF
          obtain ⟨X, hX⟩ : ∃ X, wP.setCell ⟨g, 4, none⟩ (.slice aP (putL y f).length cP) = X := ⟨_, rfl⟩
          rw [hX] at HPX hHeld ⊢
          clear hX
          have HX := hd HPX
          obtain ⟨bsx, hrx, hnx, hfx, hkx⟩ := HPX
          have c1x := (HSX.out X hkx).2
          have eR := (hkx.block (w.heap.size + 1) (by omega) (by simp; omega)).trans HE1.out
          have cR : X.cell? ⟨w.heap.size + 1, 0, none⟩ = some (.slice none 0 0) := by rw [cell_of_row X _ 0 _ _ (0, 0) eR]; rfl
          have fR := frozen_of_row X _ 0 _ _ eR
          have hkS := Keep.set X (w.heap.size + 1) 0 (.slice (some ⟨g, 0, none⟩) 5 c) [w.heap.size + 1] (by simp)
          have HE : Hid (GvP (.slice (some ⟨g, 0, none⟩) 5 c) L f0 bs g w (.returned (.tuple #[.agg #[.slice (some ⟨g, 0, none⟩) 5 c], .bool true])) (X.setCell ⟨w.heap.size + 1, 0, none⟩ (.slice (some ⟨g, 0, none⟩) 5 c))) := hd (by
            refine ⟨bsx, by rw [HGM.out], ?_, hnx, fun y hy => (hfx y hy).imp id (fun h1 => by omega), ?_⟩
            · rw [HGM.out]
              have h1 := hrx.keep (good_pe gv_IntS) hkS (fun y hy hyr => by simp at hyr; rcases hfx y hy with h2 | h2
                                                                            · have := HBL.out y h2; omega
                                                                            · omega)
              rw [hLX] at h1
              exact h1
            · exact ((Keep.of_below [g] HB2.out).trans hkx).then hkS (fun y hy => .inr (by simp at hy; omega)))
          have HR1 := hd (show (X.setCell ⟨w.heap.size + 1, 0, none⟩ (.slice (some ⟨g, 0, none⟩) 5 c)).cell? ⟨w.heap.size + 1, 0, none⟩ = some (.slice (some ⟨g, 0, none⟩) 5 c) from by rw [cell_of_row _ _ 0 _ _ (0, 0) (heap_setCell_same X _ 0 _ _ _ eR)]; rfl)
          clear hkS eR hrx hnx hfx hkx
          go_wp2
          have r1 := HR1.out
          refine bodyPost_ret (v := .tuple #[.agg #[.slice (some ⟨g, 0, none⟩) 5 c], .bool true]) (by simp [results, Try.results51, go_sem, r1]) rfl ?_
          exact HE.out
  · have hfq : (decide (0 ≤ f0) && decide (f0 < 16)) = false := by
      rw [Bool.and_eq_false_iff, decide_eq_false_iff_not, decide_eq_false_iff_not]
      omega
    rw [hfq] at HFR
    have HGM : Hid (giveM L f0 = (L, false)) := hd (by unfold giveM; rw [hfq]; rfl)
    go_enter Try.func51, Try.ntmps51
    go_wp2_with (go_at_call 71; fail)
    rw [hW2.out]
    refine HFR.out.mono ?_
    rintro e X ⟨rfl, hX0⟩
    have hLX : L.length = 5 := HL5.out
    have HPX : HA W2 W2.heap.size g c L bs X := ⟨bs, by rw [← hX0]; exact HR0.out, HN.out, fun y hy => .inl hy, by rw [← hX0]; exact Keep.refl _ _⟩
    clear hX0
    have HX := hd HPX
    obtain ⟨bsx, hrx, hnx, hfx, hkx⟩ := HPX
    have c1x := (HSX.out X hkx).2
    have eR := (hkx.block (w.heap.size + 1) (by omega) (by simp; omega)).trans HE1.out
    have cR : X.cell? ⟨w.heap.size + 1, 0, none⟩ = some (.slice none 0 0) := by rw [cell_of_row X _ 0 _ _ (0, 0) eR]; rfl
    have fR := frozen_of_row X _ 0 _ _ eR
    have hkS := Keep.set X (w.heap.size + 1) 0 (.slice (some ⟨g, 0, none⟩) 5 c) [w.heap.size + 1] (by simp)
    have HE : Hid (GvP (.slice (some ⟨g, 0, none⟩) 5 c) L f0 bs g w (.returned (.tuple #[.agg #[.slice (some ⟨g, 0, none⟩) 5 c], .bool false])) (X.setCell ⟨w.heap.size + 1, 0, none⟩ (.slice (some ⟨g, 0, none⟩) 5 c))) := hd (by
      refine ⟨bsx, by rw [HGM.out], ?_, hnx, fun y hy => (hfx y hy).imp id (fun h1 => by omega), ?_⟩
      · rw [HGM.out]
        have h1 := hrx.keep (good_pe gv_IntS) hkS (fun y hy hyr => by simp at hyr; rcases hfx y hy with h2 | h2
                                                                      · have := HBL.out y h2; omega
                                                                      · omega)
        rw [hLX] at h1
        exact h1
      · exact ((Keep.of_below [g] HB2.out).trans hkx).then hkS (fun y hy => .inr (by simp at hy; omega)))
    have HR1 := hd (show (X.setCell ⟨w.heap.size + 1, 0, none⟩ (.slice (some ⟨g, 0, none⟩) 5 c)).cell? ⟨w.heap.size + 1, 0, none⟩ = some (.slice (some ⟨g, 0, none⟩) 5 c) from by rw [cell_of_row _ _ 0 _ _ (0, 0) (heap_setCell_same X _ 0 _ _ _ eR)]; rfl)
    clear hkS eR hrx hnx hfx hkx
    go_wp2
    have r1 := HR1.out
    refine bodyPost_ret (v := .tuple #[.agg #[.slice (some ⟨g, 0, none⟩) 5 c], .bool false]) (by simp [results, Try.results51, go_sem, r1]) rfl ?_
    exact HE.out

end Go.Proofs.Ytpgigoddjidfdaa.BuE
