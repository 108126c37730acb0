/- Chapter 15, impl's side: a heap of one's own, its lists changed in place. Condition: none. -/
import Derived.Test.YtpgigoddjidfdaaBuJ
import Derived.Deep.RegionHeld3
import Derived.Test.YtpgigoddjidfdaaHeL
namespace Go.Proofs.Ytpgigoddjidfdaa.BuK
open Go.RowKit Go.Deep Num RowC TyA TyM TyB TyR TyF TyP TyT BuS BuC TyV BuD BuE BuG IpI BuJ
set_option maxRecDepth 100000
set_option linter.unusedVariables false
set_option linter.unusedSimpArgs false

theorem nodup_swap {v A b C d : List Nat} (h : (v ++ (A ++ (b ++ C))).Nodup) (hd : d.Nodup) (hs : ∀ y ∈ d, y ∈ b ∨ y ∉ v ++ (A ++ (b ++ C))) : (v ++ (A ++ (d ++ C))).Nodup := by
  simp only [List.nodup_append, List.mem_append] at h hs ⊢
  obtain ⟨h1, ⟨h2, ⟨h3, h4, h5⟩, h6⟩, h7⟩ := h
  refine ⟨h1, ⟨h2, ⟨hd, h4, fun a ha c hc e => ?_⟩, fun a ha c hc e => ?_⟩, fun a ha c hc e => ?_⟩
  · subst e
    rcases hs a ha with h8 | h8
    · exact h5 a h8 a hc rfl
    · exact h8 (.inr (.inr (.inr hc)))
  · subst e
    rcases hc with hc | hc
    · rcases hs a hc with h8 | h8
      · exact h6 a ha a (.inl h8) rfl
      · exact h8 (.inr (.inl ha))
    · exact h6 a ha a (.inr hc) rfl
  · subst e
    rcases hc with hc | hc | hc
    · exact h7 a ha a (.inl hc) rfl
    · rcases hs a hc with h8 | h8
      · exact h7 a ha a (.inr (.inl h8)) rfl
      · exact h8 (.inl ha)
    · exact h7 a ha a (.inr (.inr hc)) rfl
/-- What was taken out of a row is put back, grown or not. -/
theorem _root_.Go.Proofs.Ytpgigoddjidfdaa.RowC.Out.swap {α : Type} {e k : Nat} {P : World → List Value → α → List Nat → Prop} {w : World} {v : Value} {l : List α} {bs b d : List Nat} {i : Nat} {cs : List Value} {x : α} (h : Out e k P w v l bs i cs b) (hn : bs.Nodup) (hp : P w cs x d) (hd : d.Nodup) (hs : ∀ y ∈ d, y ∈ b ∨ y ∉ bs) :
    ∃ bs', Row e k P w v (l.set i x) bs' ∧ bs'.Nodup ∧ ∀ y ∈ bs', y ∈ bs ∨ y ∈ d := by
  obtain ⟨xs, bss, h1, h2, rfl, hi, hb, hcs, h4⟩ := h
  have hib : i < bss.length := by omega
  refine ⟨blk v ++ (bss.set i d).flatten, ⟨xs, bss.set i d, by simpa using h1, by simpa using h2, rfl, fun i' x' b' hx' hb' => ?_⟩, ?_, fun y hy => ?_⟩
  · by_cases hii : i' = i
    · subst hii
      rw [List.getElem?_set_self (by omega)] at hx' hb'
      simp at hx' hb'
      subst hx' hb'
      rw [hcs]; exact hp
    · rw [List.getElem?_set_ne (fun h => hii h.symm)] at hx' hb'
      exact h4 i' x' b' hii hx' hb'
  · rw [flat_set d hib]
    rw [flat_split hb] at hn hs
    exact nodup_swap hn hd hs
  · rcases List.mem_append.1 hy with h5 | h5
    · exact .inl (List.mem_append_left _ h5)
    · rcases mem_set hib h5 with h6 | h6
      · exact .inl (List.mem_append_right _ h6)
      · exact .inr h6
/-- A heap of one's own (its row: block g), under way since W2, where its blocks were bs. -/
def HC (W2 : World) (g c : Nat) (Lc : List (List Int)) (bs : List Nat) (X : World) : Prop := ∃ bs', OIntSS X (.slice (some ⟨g, 0, none⟩) Lc.length c) Lc bs' ∧ bs'.Nodup ∧ (∀ y ∈ bs', y ∈ bs ∨ W2.heap.size ≤ y) ∧ Keep bs W2 X
theorem HC.start {W2 : World} {g c : Nat} {Lc : List (List Int)} {bs : List Nat} (h : OIntSS W2 (.slice (some ⟨g, 0, none⟩) Lc.length c) Lc bs) (hn : bs.Nodup) : HC W2 g c Lc bs W2 := ⟨bs, h, hn, fun y hy => .inl hy, Keep.refl _ _⟩
theorem HC.kp {W2 X : World} {g c : Nat} {Lc : List (List Int)} {bs : List Nat} (h : HC W2 g c Lc bs X) : Keep bs W2 X := by obtain ⟨_, _, _, _, h⟩ := h; exact h
theorem HC.below {W2 X Y : World} {g c : Nat} {Lc : List (List Int)} {bs : List Nat} (h : HC W2 g c Lc bs X) (hb : Below X.heap.size X Y) : HC W2 g c Lc bs Y := by
  obtain ⟨bs', h1, h2, h3, h4⟩ := h
  exact ⟨bs', gv_IntSS.below h1 hb, h2, h3, h4.trans ((Keep.of_below [] hb).mono (by simp))⟩
theorem kcell {bs : List Nat} {W X : World} {B j : Nat} (hk : Keep bs W X) (hB : B < W.heap.size) (hn : B ∉ bs) : X.cell? ⟨B, j, none⟩ = W.cell? ⟨B, j, none⟩ := World.cell?_of_block (hk.block B hB hn)
theorem HC.elem {W2 X : World} {g c o : Nat} {Lc : List (List Int)} {bs : List Nat} {l : List Int} (h : HC W2 g c Lc bs X) (hlo : Lc[o]? = some l) : ∃ u b, X.cell? ⟨g, o, none⟩ = some u ∧ OIntS X u l b ∧ (∀ y ∈ b, y ∈ bs ∨ W2.heap.size ≤ y) ∧ g < X.heap.size ∧
    (∀ Y, Keep b X Y → Y.cell? ⟨g, o, none⟩ = some u ∧ Y.frozen? ⟨g, o, none⟩ = false) ∧
    (∀ Y u' l' d, Keep b X Y → OIntS Y u' l' d → d.Nodup → (∀ y ∈ d, y ∈ b ∨ X.heap.size ≤ y) → HC W2 g c (Lc.set o l') bs (Y.setCell ⟨g, o, none⟩ u')) := by
  obtain ⟨bs', h1, h2, h3, h4⟩ := h
  have hol := (List.getElem?_eq_some_iff.1 hlo).1
  have hlt := h1.lt (good_pe gv_IntS)
  obtain ⟨x, cs, b, hx, ⟨u, rfl, hu⟩, ho⟩ := Row.out h1 hol
  rw [hlo] at hx
  simp only [Option.some.injEq] at hx
  subst hx
  have hgb := out_notin h2 ho
  have hgi := out_in ho
  have hc0 := ho.cell 0 u rfl
  rw [Nat.mul_one, Nat.add_zero] at hc0
  have hsub := ho.sub
  refine ⟨u, b, hc0, hu, fun y hy => h3 y (hsub y hy), hlt g hgi, fun Y hY => ?_, fun Y u' l' d hY hu' hd' hs => ?_⟩
  · have hOY := ho.keep (good_pe gv_IntS) h2 hY
    have hc1 := hOY.cell 0 u rfl
    rw [Nat.mul_one, Nat.add_zero] at hc1
    exact ⟨hc1, hOY.frozen o⟩
  · have hOY := ho.keep (good_pe gv_IntS) h2 hY
    have hOS := hOY.set (good_pe gv_IntS) h2 0 (by omega) u'
    rw [Nat.mul_one, Nat.add_zero] at hOS
    have hgd : ∀ y ∈ d, y ∉ [g] := fun y hy hyg => by
      simp at hyg
      subst hyg
      rcases hs y hy with h5 | h5
      · exact hgb h5
      · have := hlt y hgi; omega
    obtain ⟨bs2, r1, r2, r3⟩ := hOS.swap h2 (x := l') ⟨u', rfl, gv_IntS.keep hu' (Keep.set Y g o u' [g] (by simp)) hgd⟩ hd' (fun y hy => by
      rcases hs y hy with h5 | h5
      · exact .inl h5
      · exact .inr (fun h6 => by have := hlt y h6; omega))
    have hz := h4.size
    refine ⟨bs2, by rw [List.length_set]; exact r1, r2, fun y hy => ?_, ?_⟩
    · rcases r3 y hy with h6 | h6
      · exact h3 y h6
      · rcases hs y h6 with h7 | h7
        · exact h3 y (hsub y h7)
        · exact .inr (by omega)
    · exact (h4.then hY (fun y hy => h3 y (hsub y hy))).then (Keep.set Y g o u' [g] (by simp)) (fun y hy => by simp at hy; subst hy; exact h3 _ hgi)
theorem plcClo (B1 B2 : Nat) (x n : Int) (w : World) (h1 : w.cell? ⟨B1, 0, none⟩ = some (.func (.func 34) #[] #[])) (h2 : w.cell? ⟨B2, 0, none⟩ = some (.int .i64 n)) :
    Calls Try.prog 76 #[.int .i64 x, .pointer (some ⟨B1, 0, none⟩), .pointer (some ⟨B2, 0, none⟩)] w fun e w' => e = .returned (.bool (decide (x = n))) ∧ Below w.heap.size w w' := by
  obtain ⟨q, hq⟩ : ∃ q, decide (x = n) = q := ⟨_, rfl⟩
  have hq' : (x == n) = q := by rw [← hq]; exact Bool.eq_iff_iff.2 (by simp)
  rw [hq]
  clear hq
  have HI := hd (fun w => itself_any x w)
  go_enter Try.func76, Try.ntmps76
  go_wp2_with fail
  go_quiet ((go_at_call 34; exact qs (HI.out _)))
  go_wp2
  go_ret
  exact ⟨rfl, bdn _ _⟩
theorem ordClo (B1 B2 : Nat) (y n : Int) (w : World) (h1 : w.cell? ⟨B1, 0, none⟩ = some (.func (.func 34) #[] #[])) (h2 : w.cell? ⟨B2, 0, none⟩ = some (.int .i64 n)) :
    Calls Try.prog 77 #[.int .i64 y, .pointer (some ⟨B1, 0, none⟩), .pointer (some ⟨B2, 0, none⟩)] w fun e w' => e = .returned (.bool (decide (n < y))) ∧ Below w.heap.size w w' := by
  obtain ⟨q, hq⟩ : ∃ q, decide (n < y) = q := ⟨_, rfl⟩
  rw [hq]
  have HI := hd (fun x w => itself_any x w)
  go_enter Try.func77, Try.ntmps77
  go_wp2_with fail
  go_quiet ((go_at_call 34; exact qs (HI.out _ _)))
  go_wp2
  go_ret
  exact ⟨by first | rfl | (rw [← hq]; rfl), bdn _ _⟩

set_option maxHeartbeats 1000000 in
/-- slices.IndexFunc of numbers: where the first one that is asked for stands. -/
theorem idxPlc (v : Value) (l : List Int) (b : List Nat) (g : Int → Bool) (B1 B2 : Nat) (w : World) (hs : l.length ≤ 1100020) (h : OIntS w v l b) (hF : ∀ X, Below w.heap.size w X → ∀ (i : Nat) (x : Int), l[i]? = some x → Calls Try.prog 76 #[.int .i64 x, .pointer (some ⟨B1, 0, none⟩), .pointer (some ⟨B2, 0, none⟩)] X fun e w' => e = .returned (.bool (g x)) ∧ Below X.heap.size X w') :
    Calls Try.prog 75 #[v, .func (.func 76) #[] #[.pointer (some ⟨B1, 0, none⟩), .pointer (some ⟨B2, 0, none⟩)]] w fun e w' => ∃ r : Int, e = .returned (.int .i64 r) ∧ Hid (Fnd g l r) ∧ Below w.heap.size w w' := by
  obtain ⟨a, c, rfl⟩ := gv_IntS.slice h
  have HR := hd h
  have HF := hd hF
  clear h hF
  go_enter Try.func75, Try.ntmps75
  go_wp2_with fail
  go_loopw [8] (fun i wr => ∃ k : Nat, k ≤ l.length ∧ i = .int .i64 k ∧ Hid ((l.take k).all (fun x => !g x) = true) ∧ Below w.heap.size w wr) (fun i _ => l.length - (intOf i).toNat)
  case atStart => exact ⟨0, Nat.zero_le _, rfl, hd rfl, Below.refl _ _⟩
  case round =>
    obtain ⟨k, hk, rfl, hall, hbel⟩ := hrel
    by_cases hlt : k < l.length
    · obtain ⟨x, hp⟩ : ∃ x, l[k]? = some x := ⟨l[k], by simp [hlt]⟩
      obtain ⟨g0, rfl, c0⟩ : ∃ g0, a = some ⟨g0, 0, none⟩ ∧ wr.cell? ⟨g0, k, none⟩ = some (.int .i64 x) := by
        rcases so_cases (gv_IntS.below HR.out hbel) with ⟨hh, h0, _⟩ | ⟨g0, cap, hh, _, _, _, hcc⟩
        · rw [h0] at hlt; simp at hlt
        · simp at hh; exact ⟨g0, hh.1, hcc k x hp⟩
      have HM := hd (HF.out wr hbel k x hp)
      have hk0 : (0 : Int) ≤ k := by omega
      have hk1 : (k : Int) < l.length := by omega
      cases hg : g x
      · have HA := hd (all_step' (fun x => !g x) l k x hp hall.out (by simp [hg]))
        rw [hg] at HM
        clear hg hp
        go_wp2_with (go_at_call 76; refine HM.out.mono ?_; rintro e w1 ⟨rfl, hb1⟩)
        go_roundw
        case rel => exact ⟨k + 1, by omega, by go_num, HA, hbel.trans (hb1.mono hbel.size)⟩
        case measure => simp [intOf]; omega
      · have HA := hd (fnd_yes hp hg hall.out)
        rw [hg] at HM
        clear hg hp
        go_wp2_with (go_at_call 76; refine HM.out.mono ?_; rintro e w1 ⟨rfl, hb1⟩)
        go_ret
        exact ⟨k, rfl, HA, hbel.trans (hb1.mono hbel.size)⟩
    · obtain rfl : k = l.length := by omega
      have HA := hd (fnd_no (any_not g l _ rfl hall.out))
      go_wp2
      go_ret
      exact ⟨-1, rfl, HA, hbel⟩

set_option maxHeartbeats 1000000 in
/-- slices.IndexFunc of numbers: where the first one that is asked for stands. -/
theorem idxOrd (v : Value) (l : List Int) (b : List Nat) (g : Int → Bool) (B1 B2 : Nat) (w : World) (hs : l.length ≤ 1100020) (h : OIntS w v l b) (hF : ∀ X, Below w.heap.size w X → ∀ (i : Nat) (x : Int), l[i]? = some x → Calls Try.prog 77 #[.int .i64 x, .pointer (some ⟨B1, 0, none⟩), .pointer (some ⟨B2, 0, none⟩)] X fun e w' => e = .returned (.bool (g x)) ∧ Below X.heap.size X w') :
    Calls Try.prog 75 #[v, .func (.func 77) #[] #[.pointer (some ⟨B1, 0, none⟩), .pointer (some ⟨B2, 0, none⟩)]] w fun e w' => ∃ r : Int, e = .returned (.int .i64 r) ∧ Hid (Fnd g l r) ∧ Below w.heap.size w w' := by
  obtain ⟨a, c, rfl⟩ := gv_IntS.slice h
  have HR := hd h
  have HF := hd hF
  clear h hF
  go_enter Try.func75, Try.ntmps75
  go_wp2_with fail
  go_loopw [8] (fun i wr => ∃ k : Nat, k ≤ l.length ∧ i = .int .i64 k ∧ Hid ((l.take k).all (fun x => !g x) = true) ∧ Below w.heap.size w wr) (fun i _ => l.length - (intOf i).toNat)
  case atStart => exact ⟨0, Nat.zero_le _, rfl, hd rfl, Below.refl _ _⟩
  case round =>
    obtain ⟨k, hk, rfl, hall, hbel⟩ := hrel
    by_cases hlt : k < l.length
    · obtain ⟨x, hp⟩ : ∃ x, l[k]? = some x := ⟨l[k], by simp [hlt]⟩
      obtain ⟨g0, rfl, c0⟩ : ∃ g0, a = some ⟨g0, 0, none⟩ ∧ wr.cell? ⟨g0, k, none⟩ = some (.int .i64 x) := by
        rcases so_cases (gv_IntS.below HR.out hbel) with ⟨hh, h0, _⟩ | ⟨g0, cap, hh, _, _, _, hcc⟩
        · rw [h0] at hlt; simp at hlt
        · simp at hh; exact ⟨g0, hh.1, hcc k x hp⟩
      have HM := hd (HF.out wr hbel k x hp)
      have hk0 : (0 : Int) ≤ k := by omega
      have hk1 : (k : Int) < l.length := by omega
      cases hg : g x
      · have HA := hd (all_step' (fun x => !g x) l k x hp hall.out (by simp [hg]))
        rw [hg] at HM
        clear hg hp
        go_wp2_with (go_at_call 77; refine HM.out.mono ?_; rintro e w1 ⟨rfl, hb1⟩)
        go_roundw
        case rel => exact ⟨k + 1, by omega, by go_num, HA, hbel.trans (hb1.mono hbel.size)⟩
        case measure => simp [intOf]; omega
      · have HA := hd (fnd_yes hp hg hall.out)
        rw [hg] at HM
        clear hg hp
        go_wp2_with (go_at_call 77; refine HM.out.mono ?_; rintro e w1 ⟨rfl, hb1⟩)
        go_ret
        exact ⟨k, rfl, HA, hbel.trans (hb1.mono hbel.size)⟩
    · obtain rfl : k = l.length := by omega
      have HA := hd (fnd_no (any_not g l _ rfl hall.out))
      go_wp2
      go_ret
      exact ⟨-1, rfl, HA, hbel⟩

theorem placeOf_any (v : Value) (l : List Int) (b : List Nat) (x : Int) (w : World) (hs : l.length ≤ 1100020) (h : OIntS w v l b) :
    Calls Try.prog 56 #[v, .func (.func 34) #[] #[], .int .i64 x] w fun e w' => ∃ r : Int, e = .returned (.int .i64 r) ∧ Hid (Fnd (fun y => decide (y = x)) l r) ∧ Below w.heap.size w w' := by
  obtain ⟨W, hW⟩ : ∃ W, (w.alloc (.cells #[.func (.func 34) #[] #[]] 52)).alloc (.cells #[.int .i64 x] 3) = W := ⟨_, rfl⟩
  have hb0 : Below w.heap.size w W := by rw [← hW]; exact ((Below.refl _ w).alloc (Nat.le_refl _) _).alloc (by simp) _
  have e0 : W.heap[w.heap.size]? = some (.cells #[.func (.func 34) #[] #[]] 52 (0, 0)) := by rw [← hW]; exact heap_up (heap_at _ _ _ rfl) _
  have e1 : W.heap[w.heap.size + 1]? = some (.cells #[.int .i64 x] 3 (0, 0)) := by rw [← hW]; exact heap_at _ _ _ (by simp)
  have hl0 := (Array.getElem?_eq_some_iff.1 e0).1
  have hl1 := (Array.getElem?_eq_some_iff.1 e1).1
  have c0 : W.cell? ⟨w.heap.size, 0, none⟩ = some (.func (.func 34) #[] #[]) := by rw [cell_of_row W _ 0 _ _ (0, 0) e0]; rfl
  have c1 : W.cell? ⟨w.heap.size + 1, 0, none⟩ = some (.int .i64 x) := by rw [cell_of_row W _ 0 _ _ (0, 0) e1]; rfl
  have H := hd (idxPlc v l b (fun y => decide (y = x)) w.heap.size (w.heap.size + 1) W hs (gv_IntS.below h hb0) (fun X hX i y hy => plcClo w.heap.size (w.heap.size + 1) y x X ((hX.cell (p := ⟨w.heap.size, 0, none⟩) hl0).trans c0) ((hX.cell (p := ⟨w.heap.size + 1, 0, none⟩) hl1).trans c1)))
  obtain ⟨a, c, rfl⟩ := gv_IntS.slice h
  clear h c0 c1 e0 e1
  go_enter Try.func56, Try.ntmps56
  go_wp2_with fail
  try rw [hW]
  refine H.out.mono ?_
  rintro e w1 ⟨r, rfl, hr, hb1⟩
  go_wp2
  go_ret
  exact ⟨r, rfl, hr, hb0.trans (hb1.mono hb0.size)⟩
/-- The first one of that number is left out, in place. -/
theorem withoutFirst_any (g c : Nat) (l : List Int) (b : List Nat) (k : Nat) (x : Int) (w : World) (h : OIntS w (.slice (some ⟨g, 0, none⟩) l.length c) l b) (hs : l.length ≤ 1100020) (hx : l[k]? = some x) (hne : ∀ y ∈ l.take k, y ≠ x) :
    Calls Try.prog 33 #[.slice (some ⟨g, 0, none⟩) l.length c, .func (.func 34) #[] #[], .int .i64 x] w fun e w' => e = .returned (.slice (some ⟨g, 0, none⟩) (l.length - 1 : Nat) c) ∧ OIntS w' (.slice (some ⟨g, 0, none⟩) (l.length - 1) c) (l.take k ++ l.drop (k + 1)) [g] ∧ Keep [g] w w' := by
  have hk := (List.getElem?_eq_some_iff.1 hx).1
  have HP := hd (placeOf_any _ l b x w hs h)
  have HD := hd (fun X (hX : Below w.heap.size w X) => delete_any g c l b k X (gv_IntS.below h hX) hk)
  have HF : Hid (∀ r : Int, Fnd (fun y => decide (y = x)) l r → r = k) := hd (fun r hr => by
    rcases hr with ⟨k2, y, h1, h2, h3, rfl⟩ | ⟨h1, _⟩
    · have hy : y = x := by simpa using h2
      subst hy
      rcases Nat.lt_trichotomy k k2 with h5 | h5 | h5
      · have h6 := h3 y (List.mem_of_getElem? (i := k) (by rw [List.getElem?_take_of_lt h5]; exact hx))
        simp at h6
      · rw [h5]
      · exact absurd rfl (hne y (List.mem_of_getElem? (i := k2) (by rw [List.getElem?_take_of_lt h5]; exact h1)))
    · have := h1 x (List.mem_of_getElem? hx)
      simp at this)
  clear h hx hne
  go_enter Try.func33, Try.ntmps33
  go_wp2_with (go_at_call 56; fail)
  refine HP.out.mono ?_
  rintro e w1 ⟨r, rfl, hr, hb1⟩
  obtain rfl := HF.out r hr.out
  have HD2 := hd (HD.out w1 hb1)
  clear HD HF HP hr
  go_wp2_with (go_at_call 57; fail)
  refine HD2.out.mono ?_
  rintro e w2 ⟨rfl, h2, h3⟩
  have H2 := hd h2
  clear h2
  go_wp2
  go_ret
  exact ⟨rfl, H2.out, ((Keep.of_below [] hb1).mono (by simp)).trans h3⟩
/-- One number more, ahead of the first greater one; in place, or in a new block. -/
theorem inOrder_any (v : Value) (l : List Int) (b : List Nat) (x : Int) (w : World) (hs : l.length ≤ 1100018) (h : OIntS w v l b) :
    Calls Try.prog 58 #[v, .func (.func 34) #[] #[], .int .i64 x] w fun e w' => ∃ u d, e = .returned u ∧ OIntS w' u (putL l x) d ∧ d.Nodup ∧ (∀ y ∈ d, y ∈ b ∨ w.heap.size ≤ y) ∧ Keep b w w' := by
  obtain ⟨W, hW⟩ : ∃ W, (w.alloc (.cells #[.func (.func 34) #[] #[]] 52)).alloc (.cells #[.int .i64 x] 3) = W := ⟨_, rfl⟩
  have hb0 : Below w.heap.size w W := by rw [← hW]; exact ((Below.refl _ w).alloc (Nat.le_refl _) _).alloc (by simp) _
  have e0 : W.heap[w.heap.size]? = some (.cells #[.func (.func 34) #[] #[]] 52 (0, 0)) := by rw [← hW]; exact heap_up (heap_at _ _ _ rfl) _
  have e1 : W.heap[w.heap.size + 1]? = some (.cells #[.int .i64 x] 3 (0, 0)) := by rw [← hW]; exact heap_at _ _ _ (by simp)
  have hl0 := (Array.getElem?_eq_some_iff.1 e0).1
  have hl1 := (Array.getElem?_eq_some_iff.1 e1).1
  have c0 : W.cell? ⟨w.heap.size, 0, none⟩ = some (.func (.func 34) #[] #[]) := by rw [cell_of_row W _ 0 _ _ (0, 0) e0]; rfl
  have c1 : W.cell? ⟨w.heap.size + 1, 0, none⟩ = some (.int .i64 x) := by rw [cell_of_row W _ 0 _ _ (0, 0) e1]; rfl
  have H := hd (idxOrd v l b (fun y => decide (x < y)) w.heap.size (w.heap.size + 1) W (by omega) (gv_IntS.below h hb0) (fun X hX i y hy => ordClo w.heap.size (w.heap.size + 1) y x X ((hX.cell (p := ⟨w.heap.size, 0, none⟩) hl0).trans c0) ((hX.cell (p := ⟨w.heap.size + 1, 0, none⟩) hl1).trans c1)))
  have HI := hd (fun (X : World) (k : Nat) (hX : Below w.heap.size w X) (hk : k ≤ l.length) => insert_any v l b k x X (gv_IntS.below h hX) hk (by omega))
  obtain ⟨a, c, rfl⟩ := gv_IntS.slice h
  have HC1 : Hid (∀ X, Below W.heap.size W X → X.cell? ⟨w.heap.size + 1, 0, none⟩ = some (.int .i64 x)) := hd (fun X hX => (hX.cell (p := ⟨w.heap.size + 1, 0, none⟩) hl1).trans c1)
  clear h c0 c1 e0 e1
  go_enter Try.func58, Try.ntmps58
  go_wp2_with fail
  try rw [hW]
  refine H.out.mono ?_
  rintro e w1 ⟨r, rfl, hr, hb1⟩
  have hx1 := HC1.out w1 hb1
  have hbw : Below w.heap.size w w1 := hb0.trans (hb1.mono hb0.size)
  have fin : ∀ (k : Nat) (e : Ending) (w' : World), l.take k ++ x :: l.drop k = putL l x → InsP l k x b w1 e w' → ∃ u d, e = .returned u ∧ OIntS w' u (putL l x) d ∧ d.Nodup ∧ (∀ y ∈ d, y ∈ b ∨ w.heap.size ≤ y) ∧ Keep b w w' := fun k e w' hk ⟨u, d, h1, h2, h3, h4, h5⟩ => ⟨u, d, h1, by rw [← hk]; exact h2, h3, fun y hy => (h4 y hy).imp id (fun h6 => Nat.le_trans hbw.size h6), ((Keep.of_below [] hbw).mono (by simp)).trans h5⟩
  have FIN := hd fin
  clear HC1 H fin
  rcases hr.out with ⟨k, y, h1, h2, h3, rfl⟩ | ⟨h1, rfl⟩
  · have hk := (List.getElem?_eq_some_iff.1 h1).1
    have HI2 := hd (HI.out w1 k hbw (by omega))
    have HE : Hid (l.take k ++ x :: l.drop k = putL l x) := hd (putL_at x l k y h1 (by simpa using h2) (fun z hz => by have := h3 z hz; simpa using this)).symm
    have hlk : decide ((k : Int) < 0) = false := by simp
    clear h1 h2 h3 hr HI
    go_wp2_with (go_at_call 78; fail)
    refine HI2.out.mono ?_
    rintro e w2 hI
    obtain ⟨u, d, rfl, h2, h3, h4, h5⟩ := FIN.out k e w2 HE.out hI
    have H2 := hd h2
    clear h2 hI
    go_wp2
    go_ret
    exact ⟨_, d, rfl, H2.out, h3, h4, h5⟩
  · have HI2 := hd (HI.out w1 l.length hbw (Nat.le_refl _))
    have HE : Hid (l.take l.length ++ x :: l.drop l.length = putL l x) := hd (by rw [putL_none x l (fun z hz => by have := h1 z hz; simpa using this)]; simp)
    clear h1 hr HI
    go_wp2_with (go_at_call 78; fail)
    refine HI2.out.mono ?_
    rintro e w2 hI
    obtain ⟨u, d, rfl, h2, h3, h4, h5⟩ := FIN.out l.length e w2 HE.out hI
    have H2 := hd h2
    clear h2 hI
    go_wp2
    go_ret
    exact ⟨_, d, rfl, H2.out, h3, h4, h5⟩
theorem put_any {W2 : World} {bs : List Nat} {g c B o : Nat} {Lc : List (List Int)} {x : Int} {X : World} (hE : W2.cell? ⟨B, 0, none⟩ = some (.slice (some ⟨g, 0, none⟩) 5 c)) (hB : B < W2.heap.size) (hBn : B ∉ bs) (h : HC W2 g c Lc bs X) (hL : Lc.length = 5) (ho : o < 5) (hl : ∀ l ∈ Lc, l.length ≤ 1100018) :
    Calls Try.prog 36 #[.pointer (some ⟨B, 0, none⟩), .int .i64 x, .int .i64 o] X fun e w' => e = .returned (.tuple #[]) ∧ HC W2 g c (Lc.set o (putL (Lc.getD o []) x)) bs w' := by
  obtain ⟨l, hlo⟩ : ∃ l, Lc[o]? = some l := ⟨Lc[o]'(by omega), by simp⟩
  have hkX := h.kp
  obtain ⟨u, b, hcu, hou, hbl, hgl, hst, hput⟩ := h.elem hlo
  have hBX : X.cell? ⟨B, 0, none⟩ = some (.slice (some ⟨g, 0, none⟩) 5 c) := (kcell hkX hB hBn).trans hE
  have hBb : B ∉ b := fun hy => by
    rcases hbl B hy with h5 | h5
    · exact hBn h5
    · omega
  have hBlt : B < X.heap.size := Nat.lt_of_lt_of_le hB hkX.size
  have hlen := hl l (List.mem_of_getElem? hlo)
  rw [getD_at hlo]
  have HQ := hd (fun (Y : World) (hY : Below X.heap.size X Y) => inOrder_any u l b x Y hlen (gv_IntS.below hou hY))
  obtain ⟨pu, cu, rfl⟩ := gv_IntS.slice hou
  have hgB : ¬ B = g := fun e => by
    subst e
    obtain ⟨bs9, r1, _, r3, _⟩ := h
    rcases r3 B (by obtain ⟨_, _, _, _, e9, _⟩ := r1; rw [e9]; exact List.mem_append_left _ (by rw [blk_some]; simp)) with h5 | h5
    · exact hBn h5
    · omega
  have HST := hd hst
  have HPUT := hd hput
  have ho0 : (0 : Int) ≤ (o : Int) := by omega
  have ho5 : (o : Int) < 5 := by omega
  clear hst hput hou hlo hE
  go_enter Try.func36, Try.ntmps36
  go_wp2_with fail
  refine wp_region_held_drew (S := (fun Y => Y.cell? ⟨B, 0, none⟩ = some (.slice (some ⟨g, 0, none⟩) 5 c))) (by kernel_rfl) ?_ (fun hHeld => ?_)
  · exact hBX
  obtain ⟨w0, hw0⟩ : ∃ Y, X.drew = Y := ⟨_, rfl⟩
  have hB0 : Below X.heap.size X w0 := by rw [← hw0]; exact (Below.refl _ _).drew
  have hz0 : w0.heap.size = X.heap.size := by rw [← hw0]; rfl
  have hcu0 := (hB0.cell (p := ⟨g, o, none⟩) hgl).trans hcu
  have hB1 := (hB0.cell (p := ⟨B, 0, none⟩) hBlt).trans hBX
  rw [hw0] at hHeld ⊢
  clear hw0
  refine HeL.tk 0 ?_
  refine HeL.tk 1 ?_
  refine HeL.tk 2 ?_
  refine HeL.tk 3 ?_
  refine HeL.tk 4 ?_
  refine HeL.tk 5 ?_
  refine HeL.tk 6 ?_
  refine HeL.tk 7 ?_
  refine HeL.tk 8 ?_
  refine HeL.tk 9 ?_
  refine HeL.tk 10 ?_
  refine HeL.tk 12 ?_
  refine HeL.rd [11] ?_
  refine HeL.cn (fun K hK => ?_) AllReadyH.nil
  go_simp
  refine HeL.st hK (hB1) (fun hH2 => ?_)
  clear hK K hHeld
  have hHeld := hH2; clear hH2
  refine HeL.rd [13] ?_
  refine HeL.cn (fun K hK => ?_) AllReadyH.nil
  go_simp
  go_at_call 58
  refine (HQ.out _ hB0).mono ?_
  rintro e wP ⟨uP, dP, rfl, hrP, hnP, hsP, hkP0⟩
  obtain ⟨aP, cP, rfl⟩ := gv_IntS.slice hrP
  have hkP : Keep b w0 wP := hkP0
  have hB2 : wP.cell? ⟨B, 0, none⟩ = some (.slice (some ⟨g, 0, none⟩) 5 c) := (kcell hkP (by omega) hBb).trans hB1
  have hkXP := ((Keep.of_below [] hB0).mono (bs' := b) (by simp)).trans hkP
  obtain ⟨m5, m6⟩ := HST.out wP hkXP
  try go_wp2_with fail
  refine HeL.st hK (hB2) (fun hH2 => ?_)
  clear hK K hHeld
  have hHeld := hH2; clear hH2
  refine HeL.tk 14 ?_
  refine HeL.rd [15] ?_
  refine HeL.cn (fun K hK => ?_) AllReadyH.nil
  go_simp
  refine HeL.st hK ?_ (fun hH2 => ?_)
  · ((try dsimp only); exact (World.cell?_of_block ((Keep.set _ _ _ _ [g] (by simp)).block B (by have := hkXP.size; omega) (by simp; exact hgB))).trans hB2)
  clear hK K hHeld
  have hHeld := hH2; clear hH2
  refine wpAnyH_done (by kernel_rfl) ?_ _
  go_wp2
  go_end0
  exact ⟨rfl, HPUT.out wP _ _ dP hkXP hrP hnP (fun y hy => (hsP y hy).imp id (fun h9 => by omega))⟩

end Go.Proofs.Ytpgigoddjidfdaa.BuK
