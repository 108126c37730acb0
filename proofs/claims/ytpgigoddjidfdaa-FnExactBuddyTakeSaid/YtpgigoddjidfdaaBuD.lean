/- Chapter 15, spec's side: what is taken (l15Take). Condition: none. -/
import Derived.Test.YtpgigoddjidfdaaBuC
import Derived.Test.YtpgigoddjidfdaaTyV
import Derived.Deep.DeepCutAuto
namespace Go.Proofs.Ytpgigoddjidfdaa.BuD
open Go.RowKit Go.Deep Num RowC TyA TyM TyB TyR TyF TyP TyT BuS BuC TyV
set_option maxRecDepth 100000
set_option linter.unusedVariables false
set_option linter.unusedSimpArgs false

theorem _root_.Go.Below.trans2 {a b c : World} (k : Below b.heap.size b c) (h : Below a.heap.size a b) : Below a.heap.size a c := h.trans (k.mono h.size)
/-- The least order that has a block. -/
def fo (L : List (List Int)) : Nat := L.findIdx (fun l => !l.isEmpty)
/-- The second halves of each cut are put. -/
def cutL : Nat → Int → List (List Int) → List (List Int)
  | 0, _, L => L
  | o + 1, f, L => cutL o f (L.set o (putL (L.getD o []) (IntKind.i64.wrap (f + ((2 ^ o : Nat) : Int)))))
def takeM (L : List (List Int)) : List (List Int) × Int := if fo L < L.length then (cutL (fo L) ((L.getD (fo L) []).headD 0) (L.set (fo L) (L.getD (fo L) []).tail), (L.getD (fo L) []).headD 0) else (L, -1)
theorem cutL_len (o : Nat) (f : Int) : ∀ (L : List (List Int)), (cutL o f L).length = L.length := by
  induction o with
  | zero => intro L; rfl
  | succ o ih => intro L; unfold cutL; rw [ih]; simp
theorem fo_at {L : List (List Int)} {o : Nat} {l : List Int} (h : ∀ j, j < o → L[j]? = some []) (hl : L[o]? = some l) (h0 : l ≠ []) : fo L = o := by
  obtain ⟨ho, rfl⟩ := List.getElem?_eq_some_iff.1 hl
  have h1 : fo L ≤ o := by
    rcases Nat.lt_or_ge o (fo L) with h2 | h2
    · have h3 := List.not_of_lt_findIdx h2
      simp at h3
      exact absurd h3 h0
    · exact h2
  rcases Nat.lt_or_ge (fo L) o with h2 | h2
  · have hlt : fo L < L.length := by omega
    have h3 : (!(L[fo L]'hlt).isEmpty) = true := List.findIdx_getElem (w := hlt)
    have h4 := h _ h2
    have h5 : L[fo L]? = some (L[fo L]'hlt) := List.getElem?_eq_getElem hlt
    rw [h5] at h4
    simp only [Option.some.injEq] at h4
    rw [h4] at h3
    simp at h3
  · omega
theorem fo_none {L : List (List Int)} {n : Nat} (h : ∀ j, j < n → L[j]? = some []) (hn : L.length = n) : fo L = L.length := by
  have h1 : fo L ≤ L.length := List.findIdx_le_length
  rcases Nat.lt_or_ge (fo L) L.length with h2 | h2
  · have h3 := List.findIdx_getElem (w := h2)
    have h4 := h _ (show fo L < n by omega)
    have h5 : L[fo L]? = some (L[L.findIdx (fun l => !l.isEmpty)]'h2) := List.getElem?_eq_getElem h2
    rw [h5] at h4
    simp only [Option.some.injEq] at h4
    rw [h4] at h3
    simp at h3
  · omega
def TkP (v : Value) (L : List (List Int)) (bs : List Nat) (g : Nat) (w : World) (e : Ending) (w' : World) : Prop := ∃ bs', e = .returned (.tuple #[.agg #[v], .int .i64 (takeM L).2]) ∧ OIntSS w' v (takeM L).1 bs' ∧ bs'.Nodup ∧ (∀ y ∈ bs', y ∈ bs ∨ w.heap.size ≤ y) ∧ Keep [g] w w'
/-- A heap in a row of one's own (block g), under way. -/
def HA (W2 : World) (n g c : Nat) (Lc : List (List Int)) (bs : List Nat) (X : World) : Prop := ∃ bs', OIntSS X (.slice (some ⟨g, 0, none⟩) Lc.length c) Lc bs' ∧ bs'.Nodup ∧ (∀ y ∈ bs', y ∈ bs ∨ n ≤ y) ∧ Keep [g] W2 X
theorem HA.put {W2 X Y : World} {n g c i : Nat} {Lc : List (List Int)} {bs d : List Nat} {u : Value} {x : List Int} (h : HA W2 n g c Lc bs X) (hXY : Below X.heap.size X Y) (hu : OIntS Y u x d) (hd : d.Nodup) (hfr : ∀ y ∈ d, X.heap.size ≤ y) (hi : i < Lc.length) (hn : n ≤ X.heap.size) :
    HA W2 n g c (Lc.set i x) bs (Y.setCell ⟨g, i, none⟩ u) := by
  obtain ⟨bs', h1, h2, h3, h4⟩ := h
  have hlt := h1.lt (good_pe gv_IntS)
  have h5 := h1.keep (good_pe gv_IntS) (Keep.of_below [] hXY) (by simp)
  obtain ⟨a1, c1, rfl⟩ := gv_IntS.slice hu
  obtain ⟨bs2, r1, r2, r3⟩ := Row.put gv_IntS h5 h2 hi hu hd (fun y hy hyb => by have := hfr y hy; have := hlt y hyb; omega) rfl
  refine ⟨bs2, ?_, r2, fun y hy => ?_, (h4.trans ((Keep.of_below [] hXY).mono (by simp))).trans (Keep.set _ _ _ _ _ (by simp))⟩
  · rw [List.length_set]; exact r1
  · rcases r3 y hy with h6 | h6
    · exact h3 y h6
    · have := hfr y h6; exact .inr (by omega)
set_option maxHeartbeats 8000000 in
theorem l15Take_any (g c : Nat) (L : List (List Int)) (bs : List Nat) (w : World) (hL : L.length = 5) (hl : ∀ l ∈ L, l.length ≤ 1100000) (h : OIntSS w (.slice (some ⟨g, 0, none⟩) 5 c) L bs) (hn : bs.Nodup) :
    Calls Try.prog 49 #[.agg #[.slice (some ⟨g, 0, none⟩) 5 c]] w fun e w' => TkP (.slice (some ⟨g, 0, none⟩) 5 c) L bs g w e w' := by
  go_enter Try.func49, Try.ntmps49
  go_wp2_with fail
  obtain ⟨W2, hW2⟩ : ∃ W2, (w.alloc (.cells #[.slice (some ⟨g, 0, none⟩) 5 c] 26)).alloc (.cells #[.slice none 0 0] 26) = W2 := ⟨_, rfl⟩
  have hb2 : Below w.heap.size w W2 := by rw [← hW2]; exact ((Below.refl _ _).alloc (Nat.le_refl _) _).alloc (by simp) _
  have e0 : W2.heap[w.heap.size]? = some (.cells #[.slice (some ⟨g, 0, none⟩) 5 c] 26 (0, 0)) := by rw [← hW2]; exact heap_up (heap_at _ _ _ rfl) _
  have e1 : W2.heap[w.heap.size + 1]? = some (.cells #[.slice none 0 0] 26 (0, 0)) := by rw [← hW2]; exact heap_at _ _ _ (by simp)
  have hs2 : w.heap.size + 2 ≤ W2.heap.size := by rw [← hW2]; simp
  rw [hW2]
  clear hW2
  have hgw : g < w.heap.size := h.lt (good_pe gv_IntS) g (h.own_sub g (by rw [blk_some]; simp))
  have c0 : W2.cell? ⟨w.heap.size, 0, none⟩ = some (.slice (some ⟨g, 0, none⟩) 5 c) := by rw [cell_of_row W2 _ 0 _ _ (0, 0) e0]; rfl
  have HR0 := hd (show OIntSS W2 (.slice (some ⟨g, 0, none⟩) L.length c) L bs by rw [hL]; exact gv_IntSS.below h hb2)
  have HB2 := hd hb2
  have HBL := hd (h.lt (good_pe gv_IntS))
  have HN := hd hn
  have HE1 := hd e1
  have HLL := hd hl
  have HSX := hd (show ∀ X, Keep [g] W2 X → (Keep [g] W2 X ∧ X.cell? ⟨w.heap.size, 0, none⟩ = some (.slice (some ⟨g, 0, none⟩) 5 c)) from fun X hX => ⟨hX, by
    have h1 := (hX.block w.heap.size (by omega) (by simp; omega)).trans e0
    rw [cell_of_row X _ 0 _ _ (0, 0) h1]; rfl⟩)
  have HL5 := hd hL
  clear h hn e0 e1 hl hb2
  go_loop [4] (fun i => ∃ o : Nat, o ≤ 5 ∧ i = .int .i64 o ∧ Hid (∀ j, j < o → L[j]? = some [])) (fun i => 5 - (intOf i).toNat)
  case atStart => exact ⟨0, by omega, rfl, hd (fun j hj => by omega)⟩
  case round =>
    obtain ⟨o, ho, rfl, hpre⟩ := hrel
    by_cases hlt : o < 5
    · obtain ⟨l, hlo⟩ : ∃ l, L[o]? = some l := ⟨L[o]'(by omega), by simp⟩
      obtain ⟨u, bu, hcu, hou, hbu⟩ := Row.elem HR0.out hlo
      obtain ⟨pu, cu, rfl⟩ := gv_IntS.slice hou
      have ho0 : (0 : Int) ≤ (o : Int) := by omega
      have ho5 : (o : Int) < 5 := by omega
      by_cases hl0 : l = []
      · subst hl0
        have HP : Hid (∀ j, j < o + 1 → L[j]? = some []) := hd (fun j hj => by
          rcases Nat.lt_or_ge j o with h1 | h1
          · exact hpre.out j h1
          · have : j = o := by omega
            subst this; exact hlo)
        clear hlo hou
        go_wp2_with fail
        go_round
        case rel => exact ⟨o + 1, by omega, by go_num, HP⟩
        case measure => simp [intOf]; omega
      · have hlp : 0 < l.length := List.length_pos_iff.2 hl0
        have hne : ((l.length : Int) == 0) = false := beq_eq_false_iff_ne.2 (by omega)
        have hfo : fo L = o := fo_at hpre.out hlo hl0
        have hne5 : ((o : Int) == 5) = false := beq_eq_false_iff_ne.2 (by omega)
        obtain ⟨gl, rfl, hgll, hlc, hcl⟩ : ∃ gl, pu = some ⟨gl, 0, none⟩ ∧ gl < W2.heap.size ∧ l.length ≤ cu ∧ ∀ i x, l[i]? = some x → W2.cell? ⟨gl, i, none⟩ = some (cI x) := by
          rcases so_cases hou with ⟨_, h0, _⟩ | ⟨gl, cap, hh, _, hg, _, hc⟩
          · exact absurd h0 hl0
          · simp at hh
            have hlc : l.length ≤ cu := by
              rcases hou.1.2 with ⟨hh2, _⟩ | ⟨_, _, _, hh2, _, _, h5, _⟩
              · simp at hh2; exact absurd hh2.1 (by rw [hh.1]; simp)
              · simp at hh2; omega
            exact ⟨gl, hh.1, hg, hlc, hc⟩
        obtain ⟨f, tl, rfl⟩ : ∃ f tl, l = f :: tl := by cases l with
          | nil => exact absurd rfl hl0
          | cons f tl => exact ⟨f, tl, rfl⟩
        have cf : W2.cell? ⟨gl, 0, none⟩ = some (.int .i64 f) := hcl 0 f rfl
        have htl : ∀ j b, tl[j]? = some b → W2.cell? ⟨gl, 1 + j, none⟩ = some (cI b) := fun j b hj => hcl (1 + j) b (by rw [Nat.add_comm]; simpa using hj)
        have hkeep := Keep.refl [g] W2
        have hrow := HR0
        have HLO := hd hlo
        have hgl : g < W2.heap.size := by omega
        have hl1 : tl.length ≤ 1100000 := by have := HLL.out _ (List.mem_of_getElem? hlo); simp at this; omega
        simp only [List.length_cons] at hlc hcu hne
        have hi1 : (1 : Int) ≤ (tl.length : Int) + 1 := by omega
        have hi2 : (tl.length : Int) + 1 ≤ (cu : Int) := by omega
        clear hpre hlo hou hcl
        obtain ⟨F, hF⟩ : ∃ F, cutL o f (L.set o tl) = F := ⟨_, rfl⟩
        have HTK : Hid (takeM L = (F, f)) := hd (by
          have h1 : L.getD o [] = f :: tl := by rw [List.getD_eq_getElem?_getD, HLO.out]; rfl
          unfold takeM
          rw [hfo, if_pos (by omega), h1, ← hF]
          rfl)
        have HF := hd hF
        have HLB : Hid (∀ l ∈ L.set o tl, l.length ≤ 1100010 - o) := hd (fun l hl => by
          rcases List.mem_or_eq_of_mem_set hl with h1 | h1
          · have := HLL.out l h1; omega
          · subst h1; omega)
        clear hF hfo
        go_wp2_with fail
        go_cut [4] (fun i wx => i = .int .i64 o ∧ HA W2 W2.heap.size g c (L.set o tl) bs wx)
        case first =>
          by_cases hcu1 : cu = 1
          · subst hcu1
            obtain rfl : tl = [] := List.eq_nil_of_length_eq_zero (by omega)
            clear htl
            simp only [List.length_nil] at hcu hi1 hi2 hlc
            refine wp_region_held_drew (S := (fun X => Keep [g] W2 X ∧ X.cell? ⟨w.heap.size, 0, none⟩ = some (.slice (some ⟨g, 0, none⟩) 5 c))) (by kernel_rfl) ?_ (fun hHeld => ?_)
            · exact HSX.out _ hkeep.drew
            obtain ⟨w0, hw0⟩ : ∃ X, W2.drew = X := ⟨_, rfl⟩
            have hKw0 : Keep [g] W2 w0 := by rw [← hw0]; exact hkeep.drew
            have hB0 : Below W2.heap.size W2 w0 := by rw [← hw0]; exact (Below.refl _ _).drew
            have hrow0 := hrow.out.keep (good_pe gv_IntS) (Keep.of_below [] hB0) (by simp)
            have hcu0 := (hB0.cell (p := ⟨g, o, none⟩) hgl).trans hcu
            have hz0 := hB0.size
            rw [hw0] at hHeld ⊢
            clear hw0
            refine wpAnyH_take (i := 0) (oi := ⟨_, _, _, _, _, _⟩) (v := ?_) rfl (by kernel_rfl) (by kernel_rfl) (by kernel_rfl) (fun _ _ _ h => h) (Or.inl ⟨by rfl, ?_⟩) (by assumption) ?_
            rotate_left; · (intro w hSw; (try dsimp only at hSw); go_simp; try with_reducible rfl)
            try simp only [Act.put, List.setIfInBounds_toArray, List.set_cons_zero, List.set_cons_succ]
            refine wpAnyH_take (i := 1) (oi := ⟨_, _, _, _, _, _⟩) (v := ?_) rfl (by kernel_rfl) (by kernel_rfl) (by kernel_rfl) (fun _ _ _ h => h) (Or.inl ⟨by rfl, ?_⟩) (by assumption) ?_
            rotate_left; · (intro w hSw; (try dsimp only at hSw); go_simp; try with_reducible rfl)
            try simp only [Act.put, List.setIfInBounds_toArray, List.set_cons_zero, List.set_cons_succ]
            refine wpAnyH_take (i := 2) (oi := ⟨_, _, _, _, _, _⟩) (v := ?_) rfl (by kernel_rfl) (by kernel_rfl) (by kernel_rfl) (fun _ _ _ h => h) (Or.inl ⟨by rfl, ?_⟩) (by assumption) ?_
            rotate_left; · (intro w hSw; (try dsimp only at hSw); go_simp; try with_reducible rfl)
            try simp only [Act.put, List.setIfInBounds_toArray, List.set_cons_zero, List.set_cons_succ]
            refine wpAnyH_take (i := 4) (oi := ⟨_, _, _, _, _, _⟩) (v := ?_) rfl (by kernel_rfl) (by kernel_rfl) (by kernel_rfl) (fun _ _ _ h => h) (Or.inl ⟨by rfl, ?_⟩) (by assumption) ?_
            rotate_left; · (intro w hSw; (try dsimp only at hSw); go_simp; try with_reducible rfl)
            try simp only [Act.put, List.setIfInBounds_toArray, List.set_cons_zero, List.set_cons_succ]
            refine wpAnyH_take (i := 5) (oi := ⟨_, _, _, _, _, _⟩) (v := ?_) rfl (by kernel_rfl) (by kernel_rfl) (by kernel_rfl) (fun _ _ _ h => h) (Or.inl ⟨by rfl, ?_⟩) (by assumption) ?_
            rotate_left; · (intro w hSw; (try dsimp only at hSw); go_simp; try with_reducible rfl)
            try simp only [Act.put, List.setIfInBounds_toArray, List.set_cons_zero, List.set_cons_succ]
            refine wpAnyH_take (i := 6) (oi := ⟨_, _, _, _, _, _⟩) (v := ?_) rfl (by kernel_rfl) (by kernel_rfl) (by kernel_rfl) (fun _ _ _ h => h) (Or.inl ⟨by rfl, ?_⟩) (by assumption) ?_
            rotate_left; · (intro w hSw; (try dsimp only at hSw); go_simp; try with_reducible rfl)
            try simp only [Act.put, List.setIfInBounds_toArray, List.set_cons_zero, List.set_cons_succ]
            refine wpAnyH_take (i := 7) (oi := ⟨_, _, _, _, _, _⟩) (v := ?_) rfl (by kernel_rfl) (by kernel_rfl) (by kernel_rfl) (fun _ _ _ h => h) (Or.inl ⟨by rfl, ?_⟩) (by assumption) ?_
            rotate_left; · (intro w hSw; (try dsimp only at hSw); go_simp; try with_reducible rfl)
            try simp only [Act.put, List.setIfInBounds_toArray, List.set_cons_zero, List.set_cons_succ]
            refine wpAnyH_ready (rs := [3, 8]) (by kernel_rfl) (by simp) ?_
            refine AllReadyH.cons (o := ⟨_, _, _, _, _, _⟩) rfl (fun K hK => ?_) ?_
            · go_simp
              have hwL : Below w0.heap.size w0 (w0.alloc (.cells #[] 3)) := (Below.refl _ _).alloc (Nat.le_refl _) _
              have ewL := heap_alloc_new w0 (.cells #[] 3)
              have swL : w0.heap.size + 1 ≤ (w0.alloc (.cells #[] 3)).heap.size := by simp
              obtain ⟨lb, hlb⟩ : ∃ n, w0.heap.size = n := ⟨_, rfl⟩
              rw [hlb] at ewL ⊢
              obtain ⟨wL, hqwL⟩ : ∃ X, w0.alloc (.cells #[] 3) = X := ⟨_, rfl⟩
              rw [hqwL] at hwL ewL swL ⊢
              have hKwL : Keep [g] W2 wL := hKw0.trans ((Keep.of_below [] hwL).mono (by simp))
              have hlbl : lb < wL.heap.size := by omega
              have hlbc : lb = w0.heap.size := hlb.symm
              replace hlbc := hd hlbc
              clear hqwL hlb
              refine hK.out _ _ ?_ (fun hHeld2 => ?_)
              · ((try dsimp only); exact HSX.out _ hKwL)
              clear hK K hHeld
              try simp only [Act.put, List.setIfInBounds_toArray, List.set_cons_zero, List.set_cons_succ]
              have hHeld := hHeld2; clear hHeld2
              refine wpAnyH_ready (rs := [8]) (by kernel_rfl) (by simp) ?_
              refine AllReadyH.cons (o := ⟨_, _, _, _, _, _⟩) rfl (fun K hK => ?_) AllReadyH.nil
              have hcu1 := (hwL.cell (p := ⟨g, o, none⟩) (by show g < _; omega)).trans hcu0
              go_simp
              refine hK.out _ _ ?_ (fun hHeld2 => ?_)
              · ((try dsimp only); exact HSX.out _ hKwL)
              clear hK K hHeld
              try simp only [Act.put, List.setIfInBounds_toArray, List.set_cons_zero, List.set_cons_succ]
              have hHeld := hHeld2; clear hHeld2
              refine wpAnyH_take (i := 9) (oi := ⟨_, _, _, _, _, _⟩) (v := ?_) rfl (by kernel_rfl) (by kernel_rfl) (by kernel_rfl) (fun _ _ _ h => h) (Or.inl ⟨by rfl, ?_⟩) (by assumption) ?_
              rotate_left; · (intro w hSw; (try dsimp only at hSw); go_simp; try with_reducible rfl)
              try simp only [Act.put, List.setIfInBounds_toArray, List.set_cons_zero, List.set_cons_succ]
              refine wpAnyH_ready (rs := [10]) (by kernel_rfl) (by simp) ?_
              refine AllReadyH.cons (o := ⟨_, _, _, _, _, _⟩) rfl (fun K hK => ?_) AllReadyH.nil
              refine step_copyG rfl _ _ rfl lb rfl (((Below.refl _ _).block lb hlbl).trans ewL) gl 0 0 0 [] rfl rfl (fun j b hj => by simp at hj) (by simp) ?_
              intro aP cP wP dP hrP hnP hsP hwP
              have hKwP : Keep [g] W2 wP := hKwL.trans ((Keep.of_below [] hwP).mono (by simp))
              refine hK.out _ _ ?_ (fun hHeld2 => ?_)
              · ((try dsimp only); exact HSX.out _ hKwP)
              clear hK K hHeld
              try simp only [Act.put, List.setIfInBounds_toArray, List.set_cons_zero, List.set_cons_succ]
              have hHeld := hHeld2; clear hHeld2
              refine wpAnyH_take (i := 11) (oi := ⟨_, _, _, _, _, _⟩) (v := ?_) rfl (by kernel_rfl) (by kernel_rfl) (by kernel_rfl) (fun _ _ _ h => h) (Or.inl ⟨by rfl, ?_⟩) (by assumption) ?_
              rotate_left; · (intro w hSw; (try dsimp only at hSw); go_simp; try with_reducible rfl)
              try simp only [Act.put, List.setIfInBounds_toArray, List.set_cons_zero, List.set_cons_succ]
              refine wpAnyH_ready (rs := [12]) (by kernel_rfl) (by simp) ?_
              refine AllReadyH.cons (o := ⟨_, _, _, _, _, _⟩) rfl (fun K hK => ?_) AllReadyH.nil
              have hrw : OIntSS wP (.slice (some ⟨g, 0, none⟩) L.length c) L bs := hrow0.keep (good_pe gv_IntS) (Keep.of_below [] (btr hwP hwL)) (by simp)
              obtain ⟨xs_, bss_, hown_, _⟩ := id hrw
              have m5 : ∃ u, wP.cell? ⟨g, o, none⟩ = some u := ⟨_, ((btr hwP hwL).cell (p := ⟨g, o, none⟩) (by show g < _; omega)).trans hcu0⟩
              obtain ⟨u5, m5⟩ := m5
              have m6 : wP.frozen? ⟨g, o, none⟩ = false := hown_.frozenAt o
              clear hown_
              go_simp
              refine hK.out _ _ ?_ (fun hHeld2 => ?_)
              · ((try dsimp only); exact HSX.out _ (hKwP.trans (Keep.set _ _ _ _ _ (by simp))))
              clear hK K hHeld
              try simp only [Act.put, List.setIfInBounds_toArray, List.set_cons_zero, List.set_cons_succ]
              have hHeld := hHeld2; clear hHeld2
              refine wpAnyH_done (by kernel_rfl) ?_ _
              go_wp2_with fail
              have zwL := hwL.size
              have zwP := hwP.size
              have zl := hlbc.out
              have HP7 : HA W2 W2.heap.size g c (L.set o ([] : List Int)) bs (wP.setCell ⟨g, o, none⟩ (.slice aP ([] : List Int).length cP)) := HA.put ⟨bs, HR0.out, HN.out, fun y hy => .inl hy, Keep.refl _ _⟩ (btr (btr hwP hwL) hB0) hrP hnP (fun y hy => by rcases hsP y hy with h1 | h1 <;> omega) (by omega) (by omega)
              go_meet
              exact ⟨rfl, HP7⟩
            refine AllReadyH.cons (o := ⟨_, _, _, _, _, _⟩) rfl (fun K hK => ?_) ?_
            · have hcu1 := ((Below.refl _ _).cell (p := ⟨g, o, none⟩) (by show g < _; omega)).trans hcu0
              go_simp
              refine hK.out _ _ ?_ (fun hHeld2 => ?_)
              · ((try dsimp only); exact HSX.out _ hKw0)
              clear hK K hHeld
              try simp only [Act.put, List.setIfInBounds_toArray, List.set_cons_zero, List.set_cons_succ]
              have hHeld := hHeld2; clear hHeld2
              refine wpAnyH_take (i := 9) (oi := ⟨_, _, _, _, _, _⟩) (v := ?_) rfl (by kernel_rfl) (by kernel_rfl) (by kernel_rfl) (fun _ _ _ h => h) (Or.inl ⟨by rfl, ?_⟩) (by assumption) ?_
              rotate_left; · (intro w hSw; (try dsimp only at hSw); go_simp; try with_reducible rfl)
              try simp only [Act.put, List.setIfInBounds_toArray, List.set_cons_zero, List.set_cons_succ]
              refine wpAnyH_ready (rs := [3]) (by kernel_rfl) (by simp) ?_
              refine AllReadyH.cons (o := ⟨_, _, _, _, _, _⟩) rfl (fun K hK => ?_) AllReadyH.nil
              go_simp
              have hwL : Below w0.heap.size w0 (w0.alloc (.cells #[] 3)) := (Below.refl _ _).alloc (Nat.le_refl _) _
              have ewL := heap_alloc_new w0 (.cells #[] 3)
              have swL : w0.heap.size + 1 ≤ (w0.alloc (.cells #[] 3)).heap.size := by simp
              obtain ⟨lb, hlb⟩ : ∃ n, w0.heap.size = n := ⟨_, rfl⟩
              rw [hlb] at ewL ⊢
              obtain ⟨wL, hqwL⟩ : ∃ X, w0.alloc (.cells #[] 3) = X := ⟨_, rfl⟩
              rw [hqwL] at hwL ewL swL ⊢
              have hKwL : Keep [g] W2 wL := hKw0.trans ((Keep.of_below [] hwL).mono (by simp))
              have hlbl : lb < wL.heap.size := by omega
              have hlbc : lb = w0.heap.size := hlb.symm
              replace hlbc := hd hlbc
              clear hqwL hlb
              refine hK.out _ _ ?_ (fun hHeld2 => ?_)
              · ((try dsimp only); exact HSX.out _ hKwL)
              clear hK K hHeld
              try simp only [Act.put, List.setIfInBounds_toArray, List.set_cons_zero, List.set_cons_succ]
              have hHeld := hHeld2; clear hHeld2
              refine wpAnyH_ready (rs := [10]) (by kernel_rfl) (by simp) ?_
              refine AllReadyH.cons (o := ⟨_, _, _, _, _, _⟩) rfl (fun K hK => ?_) AllReadyH.nil
              refine step_copyG rfl _ _ rfl lb rfl (((Below.refl _ _).block lb hlbl).trans ewL) gl 0 0 0 [] rfl rfl (fun j b hj => by simp at hj) (by simp) ?_
              intro aP cP wP dP hrP hnP hsP hwP
              have hKwP : Keep [g] W2 wP := hKwL.trans ((Keep.of_below [] hwP).mono (by simp))
              refine hK.out _ _ ?_ (fun hHeld2 => ?_)
              · ((try dsimp only); exact HSX.out _ hKwP)
              clear hK K hHeld
              try simp only [Act.put, List.setIfInBounds_toArray, List.set_cons_zero, List.set_cons_succ]
              have hHeld := hHeld2; clear hHeld2
              refine wpAnyH_take (i := 11) (oi := ⟨_, _, _, _, _, _⟩) (v := ?_) rfl (by kernel_rfl) (by kernel_rfl) (by kernel_rfl) (fun _ _ _ h => h) (Or.inl ⟨by rfl, ?_⟩) (by assumption) ?_
              rotate_left; · (intro w hSw; (try dsimp only at hSw); go_simp; try with_reducible rfl)
              try simp only [Act.put, List.setIfInBounds_toArray, List.set_cons_zero, List.set_cons_succ]
              refine wpAnyH_ready (rs := [12]) (by kernel_rfl) (by simp) ?_
              refine AllReadyH.cons (o := ⟨_, _, _, _, _, _⟩) rfl (fun K hK => ?_) AllReadyH.nil
              have hrw : OIntSS wP (.slice (some ⟨g, 0, none⟩) L.length c) L bs := hrow0.keep (good_pe gv_IntS) (Keep.of_below [] (btr hwP hwL)) (by simp)
              obtain ⟨xs_, bss_, hown_, _⟩ := id hrw
              have m5 : ∃ u, wP.cell? ⟨g, o, none⟩ = some u := ⟨_, ((btr hwP hwL).cell (p := ⟨g, o, none⟩) (by show g < _; omega)).trans hcu0⟩
              obtain ⟨u5, m5⟩ := m5
              have m6 : wP.frozen? ⟨g, o, none⟩ = false := hown_.frozenAt o
              clear hown_
              go_simp
              refine hK.out _ _ ?_ (fun hHeld2 => ?_)
              · ((try dsimp only); exact HSX.out _ (hKwP.trans (Keep.set _ _ _ _ _ (by simp))))
              clear hK K hHeld
              try simp only [Act.put, List.setIfInBounds_toArray, List.set_cons_zero, List.set_cons_succ]
              have hHeld := hHeld2; clear hHeld2
              refine wpAnyH_done (by kernel_rfl) ?_ _
              go_wp2_with fail
              have zwL := hwL.size
              have zwP := hwP.size
              have zl := hlbc.out
              have HP7 : HA W2 W2.heap.size g c (L.set o ([] : List Int)) bs (wP.setCell ⟨g, o, none⟩ (.slice aP ([] : List Int).length cP)) := HA.put ⟨bs, HR0.out, HN.out, fun y hy => .inl hy, Keep.refl _ _⟩ (btr (btr hwP hwL) hB0) hrP hnP (fun y hy => by rcases hsP y hy with h1 | h1 <;> omega) (by omega) (by omega)
              go_meet
              exact ⟨rfl, HP7⟩
            exact AllReadyH.nil
          · skip
            refine wp_region_held_drew (S := (fun X => Keep [g] W2 X ∧ X.cell? ⟨w.heap.size, 0, none⟩ = some (.slice (some ⟨g, 0, none⟩) 5 c))) (by kernel_rfl) ?_ (fun hHeld => ?_)
            · exact HSX.out _ hkeep.drew
            obtain ⟨w0, hw0⟩ : ∃ X, W2.drew = X := ⟨_, rfl⟩
            have hKw0 : Keep [g] W2 w0 := by rw [← hw0]; exact hkeep.drew
            have hB0 : Below W2.heap.size W2 w0 := by rw [← hw0]; exact (Below.refl _ _).drew
            have hrow0 := hrow.out.keep (good_pe gv_IntS) (Keep.of_below [] hB0) (by simp)
            have hcu0 := (hB0.cell (p := ⟨g, o, none⟩) hgl).trans hcu
            have hz0 := hB0.size
            rw [hw0] at hHeld ⊢
            clear hw0
            refine wpAnyH_take (i := 0) (oi := ⟨_, _, _, _, _, _⟩) (v := ?_) rfl (by kernel_rfl) (by kernel_rfl) (by kernel_rfl) (fun _ _ _ h => h) (Or.inl ⟨by rfl, ?_⟩) (by assumption) ?_
            rotate_left; · (intro w hSw; (try dsimp only at hSw); go_simp; try with_reducible rfl)
            try simp only [Act.put, List.setIfInBounds_toArray, List.set_cons_zero, List.set_cons_succ]
            refine wpAnyH_take (i := 1) (oi := ⟨_, _, _, _, _, _⟩) (v := ?_) rfl (by kernel_rfl) (by kernel_rfl) (by kernel_rfl) (fun _ _ _ h => h) (Or.inl ⟨by rfl, ?_⟩) (by assumption) ?_
            rotate_left; · (intro w hSw; (try dsimp only at hSw); go_simp; try with_reducible rfl)
            try simp only [Act.put, List.setIfInBounds_toArray, List.set_cons_zero, List.set_cons_succ]
            refine wpAnyH_take (i := 2) (oi := ⟨_, _, _, _, _, _⟩) (v := ?_) rfl (by kernel_rfl) (by kernel_rfl) (by kernel_rfl) (fun _ _ _ h => h) (Or.inl ⟨by rfl, ?_⟩) (by assumption) ?_
            rotate_left; · (intro w hSw; (try dsimp only at hSw); go_simp; try with_reducible rfl)
            try simp only [Act.put, List.setIfInBounds_toArray, List.set_cons_zero, List.set_cons_succ]
            refine wpAnyH_take (i := 4) (oi := ⟨_, _, _, _, _, _⟩) (v := ?_) rfl (by kernel_rfl) (by kernel_rfl) (by kernel_rfl) (fun _ _ _ h => h) (Or.inl ⟨by rfl, ?_⟩) (by assumption) ?_
            rotate_left; · (intro w hSw; (try dsimp only at hSw); go_simp; try with_reducible rfl)
            try simp only [Act.put, List.setIfInBounds_toArray, List.set_cons_zero, List.set_cons_succ]
            refine wpAnyH_take (i := 5) (oi := ⟨_, _, _, _, _, _⟩) (v := ?_) rfl (by kernel_rfl) (by kernel_rfl) (by kernel_rfl) (fun _ _ _ h => h) (Or.inl ⟨by rfl, ?_⟩) (by assumption) ?_
            rotate_left; · (intro w hSw; (try dsimp only at hSw); go_simp; try with_reducible rfl)
            try simp only [Act.put, List.setIfInBounds_toArray, List.set_cons_zero, List.set_cons_succ]
            refine wpAnyH_take (i := 6) (oi := ⟨_, _, _, _, _, _⟩) (v := ?_) rfl (by kernel_rfl) (by kernel_rfl) (by kernel_rfl) (fun _ _ _ h => h) (Or.inl ⟨by rfl, ?_⟩) (by assumption) ?_
            rotate_left; · (intro w hSw; (try dsimp only at hSw); go_simp; try with_reducible rfl)
            try simp only [Act.put, List.setIfInBounds_toArray, List.set_cons_zero, List.set_cons_succ]
            refine wpAnyH_take (i := 7) (oi := ⟨_, _, _, _, _, _⟩) (v := ?_) rfl (by kernel_rfl) (by kernel_rfl) (by kernel_rfl) (fun _ _ _ h => h) (Or.inl ⟨by rfl, ?_⟩) (by assumption) ?_
            rotate_left; · (intro w hSw; (try dsimp only at hSw); go_simp; try with_reducible rfl)
            try simp only [Act.put, List.setIfInBounds_toArray, List.set_cons_zero, List.set_cons_succ]
            refine wpAnyH_ready (rs := [3, 8]) (by kernel_rfl) (by simp) ?_
            refine AllReadyH.cons (o := ⟨_, _, _, _, _, _⟩) rfl (fun K hK => ?_) ?_
            · go_simp
              have hwL : Below w0.heap.size w0 (w0.alloc (.cells #[] 3)) := (Below.refl _ _).alloc (Nat.le_refl _) _
              have ewL := heap_alloc_new w0 (.cells #[] 3)
              have swL : w0.heap.size + 1 ≤ (w0.alloc (.cells #[] 3)).heap.size := by simp
              obtain ⟨lb, hlb⟩ : ∃ n, w0.heap.size = n := ⟨_, rfl⟩
              rw [hlb] at ewL ⊢
              obtain ⟨wL, hqwL⟩ : ∃ X, w0.alloc (.cells #[] 3) = X := ⟨_, rfl⟩
              rw [hqwL] at hwL ewL swL ⊢
              have hKwL : Keep [g] W2 wL := hKw0.trans ((Keep.of_below [] hwL).mono (by simp))
              have hlbl : lb < wL.heap.size := by omega
              have hlbc : lb = w0.heap.size := hlb.symm
              replace hlbc := hd hlbc
              clear hqwL hlb
              refine hK.out _ _ ?_ (fun hHeld2 => ?_)
              · ((try dsimp only); exact HSX.out _ hKwL)
              clear hK K hHeld
              try simp only [Act.put, List.setIfInBounds_toArray, List.set_cons_zero, List.set_cons_succ]
              have hHeld := hHeld2; clear hHeld2
              refine wpAnyH_ready (rs := [8]) (by kernel_rfl) (by simp) ?_
              refine AllReadyH.cons (o := ⟨_, _, _, _, _, _⟩) rfl (fun K hK => ?_) AllReadyH.nil
              have hcu1 := (hwL.cell (p := ⟨g, o, none⟩) (by show g < _; omega)).trans hcu0
              go_simp
              refine hK.out _ _ ?_ (fun hHeld2 => ?_)
              · ((try dsimp only); exact HSX.out _ hKwL)
              clear hK K hHeld
              try simp only [Act.put, List.setIfInBounds_toArray, List.set_cons_zero, List.set_cons_succ]
              have hHeld := hHeld2; clear hHeld2
              refine wpAnyH_take (i := 9) (oi := ⟨_, _, _, _, _, _⟩) (v := ?_) rfl (by kernel_rfl) (by kernel_rfl) (by kernel_rfl) (fun _ _ _ h => h) (Or.inl ⟨by rfl, ?_⟩) (by assumption) ?_
              rotate_left; · (intro w hSw; (try dsimp only at hSw); go_simp; try with_reducible rfl)
              try simp only [Act.put, List.setIfInBounds_toArray, List.set_cons_zero, List.set_cons_succ]
              refine wpAnyH_ready (rs := [10]) (by kernel_rfl) (by simp) ?_
              refine AllReadyH.cons (o := ⟨_, _, _, _, _, _⟩) rfl (fun K hK => ?_) AllReadyH.nil
              refine step_copyG rfl _ _ rfl lb rfl (((Below.refl _ _).block lb hlbl).trans ewL) gl 1 (cu - 1) tl.length tl rfl rfl (fun j b hj => ((btr hwL hB0).cell (p := ⟨gl, 1 + j, none⟩) hgll).trans (htl j b hj)) (by omega) ?_
              intro aP cP wP dP hrP hnP hsP hwP
              have hKwP : Keep [g] W2 wP := hKwL.trans ((Keep.of_below [] hwP).mono (by simp))
              refine hK.out _ _ ?_ (fun hHeld2 => ?_)
              · ((try dsimp only); exact HSX.out _ hKwP)
              clear hK K hHeld
              try simp only [Act.put, List.setIfInBounds_toArray, List.set_cons_zero, List.set_cons_succ]
              have hHeld := hHeld2; clear hHeld2
              refine wpAnyH_take (i := 11) (oi := ⟨_, _, _, _, _, _⟩) (v := ?_) rfl (by kernel_rfl) (by kernel_rfl) (by kernel_rfl) (fun _ _ _ h => h) (Or.inl ⟨by rfl, ?_⟩) (by assumption) ?_
              rotate_left; · (intro w hSw; (try dsimp only at hSw); go_simp; try with_reducible rfl)
              try simp only [Act.put, List.setIfInBounds_toArray, List.set_cons_zero, List.set_cons_succ]
              refine wpAnyH_ready (rs := [12]) (by kernel_rfl) (by simp) ?_
              refine AllReadyH.cons (o := ⟨_, _, _, _, _, _⟩) rfl (fun K hK => ?_) AllReadyH.nil
              have hrw : OIntSS wP (.slice (some ⟨g, 0, none⟩) L.length c) L bs := hrow0.keep (good_pe gv_IntS) (Keep.of_below [] (btr hwP hwL)) (by simp)
              obtain ⟨xs_, bss_, hown_, _⟩ := id hrw
              have m5 : ∃ u, wP.cell? ⟨g, o, none⟩ = some u := ⟨_, ((btr hwP hwL).cell (p := ⟨g, o, none⟩) (by show g < _; omega)).trans hcu0⟩
              obtain ⟨u5, m5⟩ := m5
              have m6 : wP.frozen? ⟨g, o, none⟩ = false := hown_.frozenAt o
              clear hown_
              go_simp
              refine hK.out _ _ ?_ (fun hHeld2 => ?_)
              · ((try dsimp only); exact HSX.out _ (hKwP.trans (Keep.set _ _ _ _ _ (by simp))))
              clear hK K hHeld
              try simp only [Act.put, List.setIfInBounds_toArray, List.set_cons_zero, List.set_cons_succ]
              have hHeld := hHeld2; clear hHeld2
              refine wpAnyH_done (by kernel_rfl) ?_ _
              go_wp2_with fail
              have zwL := hwL.size
              have zwP := hwP.size
              have zl := hlbc.out
              have HP7 : HA W2 W2.heap.size g c (L.set o tl) bs (wP.setCell ⟨g, o, none⟩ (.slice aP tl.length cP)) := HA.put ⟨bs, HR0.out, HN.out, fun y hy => .inl hy, Keep.refl _ _⟩ (btr (btr hwP hwL) hB0) hrP hnP (fun y hy => by rcases hsP y hy with h1 | h1 <;> omega) (by omega) (by omega)
              go_meet
              exact ⟨rfl, HP7⟩
            refine AllReadyH.cons (o := ⟨_, _, _, _, _, _⟩) rfl (fun K hK => ?_) ?_
            · have hcu1 := ((Below.refl _ _).cell (p := ⟨g, o, none⟩) (by show g < _; omega)).trans hcu0
              go_simp
              refine hK.out _ _ ?_ (fun hHeld2 => ?_)
              · ((try dsimp only); exact HSX.out _ hKw0)
              clear hK K hHeld
              try simp only [Act.put, List.setIfInBounds_toArray, List.set_cons_zero, List.set_cons_succ]
              have hHeld := hHeld2; clear hHeld2
              refine wpAnyH_take (i := 9) (oi := ⟨_, _, _, _, _, _⟩) (v := ?_) rfl (by kernel_rfl) (by kernel_rfl) (by kernel_rfl) (fun _ _ _ h => h) (Or.inl ⟨by rfl, ?_⟩) (by assumption) ?_
              rotate_left; · (intro w hSw; (try dsimp only at hSw); go_simp; try with_reducible rfl)
              try simp only [Act.put, List.setIfInBounds_toArray, List.set_cons_zero, List.set_cons_succ]
              refine wpAnyH_ready (rs := [3]) (by kernel_rfl) (by simp) ?_
              refine AllReadyH.cons (o := ⟨_, _, _, _, _, _⟩) rfl (fun K hK => ?_) AllReadyH.nil
              go_simp
              have hwL : Below w0.heap.size w0 (w0.alloc (.cells #[] 3)) := (Below.refl _ _).alloc (Nat.le_refl _) _
              have ewL := heap_alloc_new w0 (.cells #[] 3)
              have swL : w0.heap.size + 1 ≤ (w0.alloc (.cells #[] 3)).heap.size := by simp
              obtain ⟨lb, hlb⟩ : ∃ n, w0.heap.size = n := ⟨_, rfl⟩
              rw [hlb] at ewL ⊢
              obtain ⟨wL, hqwL⟩ : ∃ X, w0.alloc (.cells #[] 3) = X := ⟨_, rfl⟩
              rw [hqwL] at hwL ewL swL ⊢
              have hKwL : Keep [g] W2 wL := hKw0.trans ((Keep.of_below [] hwL).mono (by simp))
              have hlbl : lb < wL.heap.size := by omega
              have hlbc : lb = w0.heap.size := hlb.symm
              replace hlbc := hd hlbc
              clear hqwL hlb
              refine hK.out _ _ ?_ (fun hHeld2 => ?_)
              · ((try dsimp only); exact HSX.out _ hKwL)
              clear hK K hHeld
              try simp only [Act.put, List.setIfInBounds_toArray, List.set_cons_zero, List.set_cons_succ]
              have hHeld := hHeld2; clear hHeld2
              refine wpAnyH_ready (rs := [10]) (by kernel_rfl) (by simp) ?_
              refine AllReadyH.cons (o := ⟨_, _, _, _, _, _⟩) rfl (fun K hK => ?_) AllReadyH.nil
              refine step_copyG rfl _ _ rfl lb rfl (((Below.refl _ _).block lb hlbl).trans ewL) gl 1 (cu - 1) tl.length tl rfl rfl (fun j b hj => ((btr hwL hB0).cell (p := ⟨gl, 1 + j, none⟩) hgll).trans (htl j b hj)) (by omega) ?_
              intro aP cP wP dP hrP hnP hsP hwP
              have hKwP : Keep [g] W2 wP := hKwL.trans ((Keep.of_below [] hwP).mono (by simp))
              refine hK.out _ _ ?_ (fun hHeld2 => ?_)
              · ((try dsimp only); exact HSX.out _ hKwP)
              clear hK K hHeld
              try simp only [Act.put, List.setIfInBounds_toArray, List.set_cons_zero, List.set_cons_succ]
              have hHeld := hHeld2; clear hHeld2
              refine wpAnyH_take (i := 11) (oi := ⟨_, _, _, _, _, _⟩) (v := ?_) rfl (by kernel_rfl) (by kernel_rfl) (by kernel_rfl) (fun _ _ _ h => h) (Or.inl ⟨by rfl, ?_⟩) (by assumption) ?_
              rotate_left; · (intro w hSw; (try dsimp only at hSw); go_simp; try with_reducible rfl)
              try simp only [Act.put, List.setIfInBounds_toArray, List.set_cons_zero, List.set_cons_succ]
              refine wpAnyH_ready (rs := [12]) (by kernel_rfl) (by simp) ?_
              refine AllReadyH.cons (o := ⟨_, _, _, _, _, _⟩) rfl (fun K hK => ?_) AllReadyH.nil
              have hrw : OIntSS wP (.slice (some ⟨g, 0, none⟩) L.length c) L bs := hrow0.keep (good_pe gv_IntS) (Keep.of_below [] (btr hwP hwL)) (by simp)
              obtain ⟨xs_, bss_, hown_, _⟩ := id hrw
              have m5 : ∃ u, wP.cell? ⟨g, o, none⟩ = some u := ⟨_, ((btr hwP hwL).cell (p := ⟨g, o, none⟩) (by show g < _; omega)).trans hcu0⟩
              obtain ⟨u5, m5⟩ := m5
              have m6 : wP.frozen? ⟨g, o, none⟩ = false := hown_.frozenAt o
              clear hown_
              go_simp
              refine hK.out _ _ ?_ (fun hHeld2 => ?_)
              · ((try dsimp only); exact HSX.out _ (hKwP.trans (Keep.set _ _ _ _ _ (by simp))))
              clear hK K hHeld
              try simp only [Act.put, List.setIfInBounds_toArray, List.set_cons_zero, List.set_cons_succ]
              have hHeld := hHeld2; clear hHeld2
              refine wpAnyH_done (by kernel_rfl) ?_ _
              go_wp2_with fail
              have zwL := hwL.size
              have zwP := hwP.size
              have zl := hlbc.out
              have HP7 : HA W2 W2.heap.size g c (L.set o tl) bs (wP.setCell ⟨g, o, none⟩ (.slice aP tl.length cP)) := HA.put ⟨bs, HR0.out, HN.out, fun y hy => .inl hy, Keep.refl _ _⟩ (btr (btr hwP hwL) hB0) hrP hnP (fun y hy => by rcases hsP y hy with h1 | h1 <;> omega) (by omega) (by omega)
              go_meet
              exact ⟨rfl, HP7⟩
            exact AllReadyH.nil
        case rest =>
          obtain ⟨rfl, hHA⟩ := hcut
          have HHA := hd hHA
          clear hHA hcu cf htl hne hrow hkeep
          go_wp2_with fail
          go_loopw [4] (fun i wr => ∃ (o1 : Nat) (Lc : List (List Int)), o1 ≤ o ∧ i = .int .i64 o1 ∧ Lc.length = 5 ∧ Hid (cutL o1 f Lc = F) ∧ Hid (∀ l ∈ Lc, l.length ≤ 1100010 - o1) ∧ Hid (HA W2 W2.heap.size g c Lc bs wr)) (fun i _ => (intOf i).toNat)
          case atStart => exact ⟨o, L.set o tl, Nat.le_refl _, rfl, by simp [HL5.out], HF, HLB, HHA⟩
          case round =>
            clear HHA HLB
            obtain ⟨o1, Lc, ho1, rfl, hLc, HC, HLB, HHA⟩ := hrel
            obtain ⟨bs', hrow, hnd, hfr, hkeep⟩ := HHA.out
            replace hrow := hd hrow
            have c1 := (HSX.out wr hkeep).2
            have hgl : g < wr.heap.size := Nat.lt_of_lt_of_le (by omega) hkeep.size
            have hws : w.heap.size + 2 ≤ wr.heap.size := Nat.le_trans hs2 hkeep.size
            rcases o1 with _ | o2
            · have hd0 : decide ((0 : Int) < ((0 : Nat) : Int)) = false := rfl
              have eR := (hkeep.block (w.heap.size + 1) (by omega) (by simp; omega)).trans HE1.out
              have cR : wr.cell? ⟨w.heap.size + 1, 0, none⟩ = some (.slice none 0 0) := by rw [cell_of_row wr _ 0 _ _ (0, 0) eR]; rfl
              have fR := frozen_of_row wr _ 0 _ _ eR
              have hkS := Keep.set wr (w.heap.size + 1) 0 (.slice (some ⟨g, 0, none⟩) 5 c) [w.heap.size + 1] (by simp)
              have HE : Hid (TkP (.slice (some ⟨g, 0, none⟩) 5 c) L bs g w (.returned (.tuple #[.agg #[.slice (some ⟨g, 0, none⟩) 5 c], .int .i64 f])) (wr.setCell ⟨w.heap.size + 1, 0, none⟩ (.slice (some ⟨g, 0, none⟩) 5 c))) := hd (by
                have hFL : Lc = F := HC.out
                have hb1 : ∀ y ∈ bs', y ≠ w.heap.size + 1 := fun y hy hyr => by
                  rcases hfr y hy with h1 | h1
                  · have := HBL.out y h1; omega
                  · omega
                refine ⟨bs', by rw [HTK.out], ?_, hnd, fun y hy => (hfr y hy).imp id (fun h1 => by omega), ?_⟩
                · rw [HTK.out, ← hFL]
                  have h1 := hrow.out.keep (good_pe gv_IntS) hkS (fun y hy hyr => hb1 y hy (by simpa using hyr))
                  rw [hLc] at h1
                  exact h1
                · exact ((Keep.of_below [g] HB2.out).trans hkeep).then hkS (fun y hy => .inr (by simp at hy; omega)))
              have HR1 := hd (show (wr.setCell ⟨w.heap.size + 1, 0, none⟩ (.slice (some ⟨g, 0, none⟩) 5 c)).cell? ⟨w.heap.size + 1, 0, none⟩ = some (.slice (some ⟨g, 0, none⟩) 5 c) from by rw [cell_of_row _ _ 0 _ _ (0, 0) (heap_setCell_same wr _ 0 _ _ _ eR)]; rfl)
              clear hkS eR
              go_wp2
              have r1 := HR1.out
              refine bodyPost_ret (v := .tuple #[.agg #[.slice (some ⟨g, 0, none⟩) 5 c], .int .i64 f]) (by simp [results, Try.results49, go_sem, r1]) rfl ?_
              exact HE.out
            · have hd0 : decide ((0 : Int) < ((o2 + 1 : Nat) : Int)) = true := decide_eq_true (by omega)
              obtain ⟨y, hy⟩ : ∃ y, Lc[o2]? = some y := ⟨Lc[o2]'(by omega), by simp⟩
              obtain ⟨u, bu, hcu, hou, hbu⟩ := Row.elem hrow.out hy
              obtain ⟨pu, cu, rfl⟩ := gv_IntS.slice hou
              have hyl : y.length ≤ 1100010 := by have := HLB.out y (List.mem_of_getElem? hy); omega
              obtain ⟨n2, hn2⟩ : ∃ n2 : Nat, 2 ^ o2 = n2 := ⟨_, rfl⟩
              have HLN := hd (fun X => l15Len_any o2 X (by omega))
              rw [hn2] at HLN
              obtain ⟨x2, hx2⟩ : ∃ x2, IntKind.i64.wrap (f + (n2 : Int)) = x2 := ⟨_, rfl⟩
              have HC2 : Hid (cutL o2 f (Lc.set o2 (putL y x2)) = F) := hd (by
                have h1 := HC.out
                unfold cutL at h1
                rw [hn2, hx2, List.getD_eq_getElem?_getD, hy] at h1
                exact h1)
              have ho0 : (0 : Int) ≤ (o2 : Int) := by omega
              have ho5 : (o2 : Int) < 5 := by omega
              have HPU := hd (fun X (hX : Below wr.heap.size wr X) => l15Put_any _ y bu x2 X (gv_IntS.below hou hX) (by omega))
              have HY := hd hy
              clear hn2 hy hou
              go_wp2_with fail
              refine wp_region_held_drew (S := (fun X => Keep [g] W2 X ∧ X.cell? ⟨w.heap.size, 0, none⟩ = some (.slice (some ⟨g, 0, none⟩) 5 c))) (by kernel_rfl) ?_ (fun hHeld => ?_)
              · exact HSX.out _ hkeep.drew
              obtain ⟨w0, hw0⟩ : ∃ X, wr.drew = X := ⟨_, rfl⟩
              have hKw0 : Keep [g] W2 w0 := by rw [← hw0]; exact hkeep.drew
              have hB0 : Below wr.heap.size wr w0 := by rw [← hw0]; exact (Below.refl _ _).drew
              have hrow0 := hrow.out.keep (good_pe gv_IntS) (Keep.of_below [] hB0) (by simp)
              have hcu0 := (hB0.cell (p := ⟨g, o2, none⟩) hgl).trans hcu
              have hz0 := hB0.size
              rw [hw0] at hHeld ⊢
              clear hw0
              refine wpAnyH_take (i := 0) (oi := ⟨_, _, _, _, _, _⟩) (v := ?_) rfl (by kernel_rfl) (by kernel_rfl) (by kernel_rfl) (fun _ _ _ h => h) (Or.inl ⟨by rfl, ?_⟩) (by assumption) ?_
              rotate_left; · (intro w hSw; (try dsimp only at hSw); go_simp; try with_reducible rfl)
              try simp only [Act.put, List.setIfInBounds_toArray, List.set_cons_zero, List.set_cons_succ]
              refine wpAnyH_take (i := 1) (oi := ⟨_, _, _, _, _, _⟩) (v := ?_) rfl (by kernel_rfl) (by kernel_rfl) (by kernel_rfl) (fun _ _ _ h => h) (Or.inl ⟨by rfl, ?_⟩) (by assumption) ?_
              rotate_left; · (intro w hSw; (try dsimp only at hSw); go_simp; try with_reducible rfl)
              try simp only [Act.put, List.setIfInBounds_toArray, List.set_cons_zero, List.set_cons_succ]
              refine wpAnyH_take (i := 2) (oi := ⟨_, _, _, _, _, _⟩) (v := ?_) rfl (by kernel_rfl) (by kernel_rfl) (by kernel_rfl) (fun _ _ _ h => h) (Or.inl ⟨by rfl, ?_⟩) (by assumption) ?_
              rotate_left; · (intro w hSw; (try dsimp only at hSw); go_simp; try with_reducible rfl)
              try simp only [Act.put, List.setIfInBounds_toArray, List.set_cons_zero, List.set_cons_succ]
              refine wpAnyH_take (i := 3) (oi := ⟨_, _, _, _, _, _⟩) (v := ?_) rfl (by kernel_rfl) (by kernel_rfl) (by kernel_rfl) (fun _ _ _ h => h) (Or.inl ⟨by rfl, ?_⟩) (by assumption) ?_
              rotate_left; · (intro w hSw; (try dsimp only at hSw); go_simp; try with_reducible rfl)
              try simp only [Act.put, List.setIfInBounds_toArray, List.set_cons_zero, List.set_cons_succ]
              refine wpAnyH_take (i := 4) (oi := ⟨_, _, _, _, _, _⟩) (v := ?_) rfl (by kernel_rfl) (by kernel_rfl) (by kernel_rfl) (fun _ _ _ h => h) (Or.inl ⟨by rfl, ?_⟩) (by assumption) ?_
              rotate_left; · (intro w hSw; (try dsimp only at hSw); go_simp; try with_reducible rfl)
              try simp only [Act.put, List.setIfInBounds_toArray, List.set_cons_zero, List.set_cons_succ]
              refine wpAnyH_take (i := 5) (oi := ⟨_, _, _, _, _, _⟩) (v := ?_) rfl (by kernel_rfl) (by kernel_rfl) (by kernel_rfl) (fun _ _ _ h => h) (Or.inl ⟨by rfl, ?_⟩) (by assumption) ?_
              rotate_left; · (intro w hSw; (try dsimp only at hSw); go_simp; try with_reducible rfl)
              try simp only [Act.put, List.setIfInBounds_toArray, List.set_cons_zero, List.set_cons_succ]
              refine wpAnyH_take (i := 6) (oi := ⟨_, _, _, _, _, _⟩) (v := ?_) rfl (by kernel_rfl) (by kernel_rfl) (by kernel_rfl) (fun _ _ _ h => h) (Or.inl ⟨by rfl, ?_⟩) (by assumption) ?_
              rotate_left; · (intro w hSw; (try dsimp only at hSw); go_simp; try with_reducible rfl)
              try simp only [Act.put, List.setIfInBounds_toArray, List.set_cons_zero, List.set_cons_succ]
              refine wpAnyH_take (i := 8) (oi := ⟨_, _, _, _, _, _⟩) (v := ?_) rfl (by kernel_rfl) (by kernel_rfl) (by kernel_rfl) (fun _ _ _ h => h) (Or.inl ⟨by rfl, ?_⟩) (by assumption) ?_
              rotate_left; · (intro w hSw; (try dsimp only at hSw); go_simp; try with_reducible rfl)
              try simp only [Act.put, List.setIfInBounds_toArray, List.set_cons_zero, List.set_cons_succ]
              refine wpAnyH_take (i := 9) (oi := ⟨_, _, _, _, _, _⟩) (v := ?_) rfl (by kernel_rfl) (by kernel_rfl) (by kernel_rfl) (fun _ _ _ h => h) (Or.inl ⟨by rfl, ?_⟩) (by assumption) ?_
              rotate_left; · (intro w hSw; (try dsimp only at hSw); go_simp; try with_reducible rfl)
              try simp only [Act.put, List.setIfInBounds_toArray, List.set_cons_zero, List.set_cons_succ]
              refine wpAnyH_ready (rs := [7, 10]) (by kernel_rfl) (by simp) ?_
              refine AllReadyH.cons (o := ⟨_, _, _, _, _, _⟩) rfl (fun K hK => ?_) ?_
              · have hcu1 := ((Below.refl _ _).cell (p := ⟨g, o2, none⟩) (by show g < _; omega)).trans hcu0
                go_simp
                refine hK.out _ _ ?_ (fun hHeld2 => ?_)
                · ((try dsimp only); exact HSX.out _ hKw0)
                clear hK K hHeld
                try simp only [Act.put, List.setIfInBounds_toArray, List.set_cons_zero, List.set_cons_succ]
                have hHeld := hHeld2; clear hHeld2
                refine wpAnyH_ready (rs := [10]) (by kernel_rfl) (by simp) ?_
                refine AllReadyH.cons (o := ⟨_, _, _, _, _, _⟩) rfl (fun K hK => ?_) AllReadyH.nil
                go_simp
                go_at_call 38
                refine (HLN.out _).mono ?_
                rintro e w_ ⟨rfl, rfl⟩
                try go_wp2_with fail
                refine hK.out _ _ ?_ (fun hHeld2 => ?_)
                · ((try dsimp only); exact HSX.out _ hKw0)
                clear hK K hHeld
                try simp only [Act.put, List.setIfInBounds_toArray, List.set_cons_zero, List.set_cons_succ]
                have hHeld := hHeld2; clear hHeld2
                refine wpAnyH_take (i := 11) (oi := ⟨_, _, _, _, _, _⟩) (v := ?_) rfl (by kernel_rfl) (by kernel_rfl) (by kernel_rfl) (fun _ _ _ h => h) (Or.inl ⟨by rfl, ?_⟩) (by assumption) ?_
                rotate_left; · (intro w hSw; (try dsimp only at hSw); go_simp; try with_reducible rfl)
                try simp only [Act.put, List.setIfInBounds_toArray, List.set_cons_zero, List.set_cons_succ]
                refine wpAnyH_ready (rs := [12]) (by kernel_rfl) (by simp) ?_
                refine AllReadyH.cons (o := ⟨_, _, _, _, _, _⟩) rfl (fun K hK => ?_) AllReadyH.nil
                go_simp
                go_at_call 70
                refine (HPU.out _ (btr (Below.refl _ _) hB0)).mono ?_
                rintro e wP ⟨uP, dP, rfl, hrP, hnP, hsP, hwP⟩
                obtain ⟨aP, cP, rfl⟩ := gv_IntS.slice hrP
                have hKwP : Keep [g] W2 wP := hKw0.trans ((Keep.of_below [] hwP).mono (by simp))
                try go_wp2_with fail
                refine hK.out _ _ ?_ (fun hHeld2 => ?_)
                · ((try dsimp only); exact HSX.out _ hKwP)
                clear hK K hHeld
                try simp only [Act.put, List.setIfInBounds_toArray, List.set_cons_zero, List.set_cons_succ]
                have hHeld := hHeld2; clear hHeld2
                refine wpAnyH_take (i := 13) (oi := ⟨_, _, _, _, _, _⟩) (v := ?_) rfl (by kernel_rfl) (by kernel_rfl) (by kernel_rfl) (fun _ _ _ h => h) (Or.inl ⟨by rfl, ?_⟩) (by assumption) ?_
                rotate_left; · (intro w hSw; (try dsimp only at hSw); go_simp; try with_reducible rfl)
                try simp only [Act.put, List.setIfInBounds_toArray, List.set_cons_zero, List.set_cons_succ]
                refine wpAnyH_ready (rs := [14]) (by kernel_rfl) (by simp) ?_
                refine AllReadyH.cons (o := ⟨_, _, _, _, _, _⟩) rfl (fun K hK => ?_) AllReadyH.nil
                have hrw : OIntSS wP (.slice (some ⟨g, 0, none⟩) Lc.length c) Lc bs' := hrow0.keep (good_pe gv_IntS) (Keep.of_below [] hwP) (by simp)
                obtain ⟨xs_, bss_, hown_, _⟩ := id hrw
                have m5 : ∃ u, wP.cell? ⟨g, o2, none⟩ = some u := ⟨_, (hwP.cell (p := ⟨g, o2, none⟩) (by show g < _; omega)).trans hcu0⟩
                obtain ⟨u5, m5⟩ := m5
                have m6 : wP.frozen? ⟨g, o2, none⟩ = false := hown_.frozenAt o2
                clear hown_
                go_simp
                refine hK.out _ _ ?_ (fun hHeld2 => ?_)
                · ((try dsimp only); exact HSX.out _ (hKwP.trans (Keep.set _ _ _ _ _ (by simp))))
                clear hK K hHeld
                try simp only [Act.put, List.setIfInBounds_toArray, List.set_cons_zero, List.set_cons_succ]
                have hHeld := hHeld2; clear hHeld2
                refine wpAnyH_done (by kernel_rfl) ?_ _
                go_wp2_with fail
                have HP10 := HA.put ⟨bs', hrow.out, hnd, hfr, hkeep⟩ (btr hwP hB0) hrP hnP (fun y hy => by have := hsP y hy; omega) (show o2 < Lc.length by omega) hkeep.size
                exact ⟨⟨o2, Lc.set o2 (putL y x2), by omega, by go_num, by simp [hLc], HC2, hd (fun l hl => by
                  rcases List.mem_or_eq_of_mem_set hl with h1 | h1
                  · have := HLB.out l h1; omega
                  · subst h1; rw [putL_len]; have := HLB.out y (List.mem_of_getElem? HY.out); omega), hd HP10⟩, by first | (simp [intOf]; done) | (simp [intOf]; omega)⟩
              refine AllReadyH.cons (o := ⟨_, _, _, _, _, _⟩) rfl (fun K hK => ?_) ?_
              · go_simp
                go_at_call 38
                refine (HLN.out _).mono ?_
                rintro e w_ ⟨rfl, rfl⟩
                try go_wp2_with fail
                refine hK.out _ _ ?_ (fun hHeld2 => ?_)
                · ((try dsimp only); exact HSX.out _ hKw0)
                clear hK K hHeld
                try simp only [Act.put, List.setIfInBounds_toArray, List.set_cons_zero, List.set_cons_succ]
                have hHeld := hHeld2; clear hHeld2
                refine wpAnyH_take (i := 11) (oi := ⟨_, _, _, _, _, _⟩) (v := ?_) rfl (by kernel_rfl) (by kernel_rfl) (by kernel_rfl) (fun _ _ _ h => h) (Or.inl ⟨by rfl, ?_⟩) (by assumption) ?_
                rotate_left; · (intro w hSw; (try dsimp only at hSw); go_simp; try with_reducible rfl)
                try simp only [Act.put, List.setIfInBounds_toArray, List.set_cons_zero, List.set_cons_succ]
                refine wpAnyH_ready (rs := [7]) (by kernel_rfl) (by simp) ?_
                refine AllReadyH.cons (o := ⟨_, _, _, _, _, _⟩) rfl (fun K hK => ?_) AllReadyH.nil
                have hcu1 := ((Below.refl _ _).cell (p := ⟨g, o2, none⟩) (by show g < _; omega)).trans hcu0
                go_simp
                refine hK.out _ _ ?_ (fun hHeld2 => ?_)
                · ((try dsimp only); exact HSX.out _ hKw0)
                clear hK K hHeld
                try simp only [Act.put, List.setIfInBounds_toArray, List.set_cons_zero, List.set_cons_succ]
                have hHeld := hHeld2; clear hHeld2
                refine wpAnyH_ready (rs := [12]) (by kernel_rfl) (by simp) ?_
                refine AllReadyH.cons (o := ⟨_, _, _, _, _, _⟩) rfl (fun K hK => ?_) AllReadyH.nil
                go_simp
                go_at_call 70
                refine (HPU.out _ (btr (Below.refl _ _) hB0)).mono ?_
                rintro e wP ⟨uP, dP, rfl, hrP, hnP, hsP, hwP⟩
                obtain ⟨aP, cP, rfl⟩ := gv_IntS.slice hrP
                have hKwP : Keep [g] W2 wP := hKw0.trans ((Keep.of_below [] hwP).mono (by simp))
                try go_wp2_with fail
                refine hK.out _ _ ?_ (fun hHeld2 => ?_)
                · ((try dsimp only); exact HSX.out _ hKwP)
                clear hK K hHeld
                try simp only [Act.put, List.setIfInBounds_toArray, List.set_cons_zero, List.set_cons_succ]
                have hHeld := hHeld2; clear hHeld2
                refine wpAnyH_take (i := 13) (oi := ⟨_, _, _, _, _, _⟩) (v := ?_) rfl (by kernel_rfl) (by kernel_rfl) (by kernel_rfl) (fun _ _ _ h => h) (Or.inl ⟨by rfl, ?_⟩) (by assumption) ?_
                rotate_left; · (intro w hSw; (try dsimp only at hSw); go_simp; try with_reducible rfl)
                try simp only [Act.put, List.setIfInBounds_toArray, List.set_cons_zero, List.set_cons_succ]
                refine wpAnyH_ready (rs := [14]) (by kernel_rfl) (by simp) ?_
                refine AllReadyH.cons (o := ⟨_, _, _, _, _, _⟩) rfl (fun K hK => ?_) AllReadyH.nil
                have hrw : OIntSS wP (.slice (some ⟨g, 0, none⟩) Lc.length c) Lc bs' := hrow0.keep (good_pe gv_IntS) (Keep.of_below [] hwP) (by simp)
                obtain ⟨xs_, bss_, hown_, _⟩ := id hrw
                have m5 : ∃ u, wP.cell? ⟨g, o2, none⟩ = some u := ⟨_, (hwP.cell (p := ⟨g, o2, none⟩) (by show g < _; omega)).trans hcu0⟩
                obtain ⟨u5, m5⟩ := m5
                have m6 : wP.frozen? ⟨g, o2, none⟩ = false := hown_.frozenAt o2
                clear hown_
                go_simp
                refine hK.out _ _ ?_ (fun hHeld2 => ?_)
                · ((try dsimp only); exact HSX.out _ (hKwP.trans (Keep.set _ _ _ _ _ (by simp))))
                clear hK K hHeld
                try simp only [Act.put, List.setIfInBounds_toArray, List.set_cons_zero, List.set_cons_succ]
                have hHeld := hHeld2; clear hHeld2
                refine wpAnyH_done (by kernel_rfl) ?_ _
                go_wp2_with fail
                have HP10 := HA.put ⟨bs', hrow.out, hnd, hfr, hkeep⟩ (btr hwP hB0) hrP hnP (fun y hy => by have := hsP y hy; omega) (show o2 < Lc.length by omega) hkeep.size
                exact ⟨⟨o2, Lc.set o2 (putL y x2), by omega, by go_num, by simp [hLc], HC2, hd (fun l hl => by
                  rcases List.mem_or_eq_of_mem_set hl with h1 | h1
                  · have := HLB.out l h1; omega
                  · subst h1; rw [putL_len]; have := HLB.out y (List.mem_of_getElem? HY.out); omega), hd HP10⟩, by first | (simp [intOf]; done) | (simp [intOf]; omega)⟩
              exact AllReadyH.nil
    · obtain rfl : o = 5 := by omega
      have hfo := fo_none hpre.out HL5.out
      have HT : Hid (takeM L = (L, -1)) := hd (by unfold takeM; rw [if_neg (by omega)])
      have cR : W2.cell? ⟨w.heap.size + 1, 0, none⟩ = some (.slice none 0 0) := by rw [cell_of_row W2 _ 0 _ _ (0, 0) HE1.out]; rfl
      have fR := frozen_of_row W2 _ 0 _ _ HE1.out
      have hkS := Keep.set W2 (w.heap.size + 1) 0 (.slice (some ⟨g, 0, none⟩) 5 c) [w.heap.size + 1] (by simp)
      have HE : Hid (TkP (.slice (some ⟨g, 0, none⟩) 5 c) L bs g w (.returned (.tuple #[.agg #[.slice (some ⟨g, 0, none⟩) 5 c], .int .i64 (-1)])) (W2.setCell ⟨w.heap.size + 1, 0, none⟩ (.slice (some ⟨g, 0, none⟩) 5 c))) := hd (by
        have hlt1 := HR0.out.lt (good_pe gv_IntS)
        refine ⟨bs, by rw [HT.out], ?_, HN.out, fun y hy => .inl hy, ?_⟩
        · rw [HT.out]
          have h1 := HR0.out.keep (good_pe gv_IntS) hkS (fun y hy hyr => by simp at hyr; have := HBL.out y hy; omega)
          rw [HL5.out] at h1
          exact h1
        · exact (Keep.of_below [g] HB2.out).then hkS (fun y hy => .inr (by simp at hy; omega)))
      have HR1 := hd (show (W2.setCell ⟨w.heap.size + 1, 0, none⟩ (.slice (some ⟨g, 0, none⟩) 5 c)).cell? ⟨w.heap.size + 1, 0, none⟩ = some (.slice (some ⟨g, 0, none⟩) 5 c) from by rw [cell_of_row _ _ 0 _ _ (0, 0) (heap_setCell_same W2 _ 0 _ _ _ HE1.out)]; rfl)
      clear hkS hfo
      go_wp2
      have r1 := HR1.out
      refine bodyPost_ret (v := .tuple #[.agg #[.slice (some ⟨g, 0, none⟩) 5 c], .int .i64 (-1)]) (by simp [results, Try.results49, go_sem, r1]) rfl ?_
      exact HE.out

end Go.Proofs.Ytpgigoddjidfdaa.BuD
