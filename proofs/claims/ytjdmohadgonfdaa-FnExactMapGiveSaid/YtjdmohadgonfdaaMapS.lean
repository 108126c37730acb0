/- Chapter 11, spec's side: MapOk, MapTake, MapGive, MapFree, and what they come to. Condition: none. -/
import Derived.Test.YtjdmohadgonfdaaTyB
import Derived.Test.YtjdmohadgonfdaaTyT
namespace Go.Proofs.Ytjdmohadgonfdaa.MapS
open Go.RowKit Go.Deep Num RowC TyA TyM TyB TyT
set_option maxRecDepth 100000
set_option linter.unusedVariables false
set_option linter.unusedSimpArgs false

/-- The first frame that is free; as many as there are, where none is. -/
def fst (l : List Bool) : Nat := l.findIdx (fun b => !b)
def okB (l : List Bool) : Bool := decide (l.length = 16)
def freeN (l : List Bool) : Nat := (l.filter (fun b => !b)).length
def take0 (l : List Bool) : List Bool := if okB l then l.set (fst l) true else []
def take1 (l : List Bool) : Int := if okB l && decide (fst l < l.length) then (fst l : Int) else -1
def giveB (l : List Bool) (f : Int) : Bool := okB l && (decide (0 ≤ f) && (decide (f < l.length) && l.getD f.toNat false))
def give0 (l : List Bool) (f : Int) : List Bool := if okB l then (if giveB l f then l.set f.toNat false else l) else []
def free0 (l : List Bool) : Int := if okB l then (freeN l : Int) else 0

theorem fst_step {l : List Bool} {j : Nat} (h : ∀ i, i < j → l[i]? = some true) : j ≤ l.length → j ≤ fst l := by
  intro hj
  unfold fst
  rcases Nat.lt_or_ge (l.findIdx (fun b => !b)) j with h1 | h1
  · have hlt : l.findIdx (fun b => !b) < l.length := by omega
    have h2 := List.findIdx_getElem (w := hlt)
    have h3 := h _ h1
    rw [List.getElem?_eq_getElem hlt] at h3
    simp only [Option.some.injEq] at h3
    rw [h3] at h2
    simp at h2
  · exact h1
theorem fst_at {l : List Bool} {j : Nat} (h : ∀ i, i < j → l[i]? = some true) (hj : l[j]? = some false) : fst l = j := by
  have hl := (List.getElem?_eq_some_iff.1 hj).1
  have h1 := fst_step h (by omega)
  rcases Nat.lt_or_ge j (fst l) with h3 | h3
  · have h4 := List.not_of_lt_findIdx h3
    have h5 := (List.getElem?_eq_some_iff.1 hj).2
    rw [h5] at h4
    simp at h4
  · omega
theorem fst_le (l : List Bool) : fst l ≤ l.length := List.findIdx_le_length

theorem mapOk_any (v : Value) (l : List Bool) (b : List Nat) (w : World) (h : OBoolS w v l b) (hl : l.length ≤ 3000000) :
    Calls Try.prog 11 #[v] w fun e w' => e = .returned (.bool (okB l)) ∧ w = w' := by
  obtain ⟨a, c, rfl⟩ := gv_BoolS.slice h
  clear h
  by_cases h16 : l.length = 16
  · have hq : okB l = true := by simp [okB, h16]
    rw [hq]
    go_enter Try.func11, Try.ntmps11
    go_wp2
    go_ret
    exact ⟨by simp, rfl⟩
  · have hq : okB l = false := by simp [okB, h16]
    rw [hq]
    have hne : ((l.length : Int) == 16) = false := by simp; omega
    go_enter Try.func11, Try.ntmps11
    go_wp2
    go_ret
    exact ⟨by simp, rfl⟩
set_option maxHeartbeats 1000000 in
theorem l11Take_any (g cap : Nat) (l : List Bool) (w : World) (hl : l.length ≤ 1000) (hown : w.ownsRow 0 4 1 (.slice (some ⟨g, 0, none⟩) l.length cap) l.length (l.map cB)) :
    Calls Try.prog 33 #[.slice (some ⟨g, 0, none⟩) l.length cap] w fun e w' => e = .returned (.tuple #[.slice (some ⟨g, 0, none⟩) l.length cap, .int .i64 (if fst l < l.length then (fst l : Int) else -1)]) ∧
      w'.ownsRow 0 4 1 (.slice (some ⟨g, 0, none⟩) l.length cap) l.length ((l.set (fst l) true).map cB) ∧ Keep [g] w w' := by
  have hc := hd (fun i (x : Bool) (hx : l[i]? = some x) => by
    have hi := (List.getElem?_eq_some_iff.1 hx).1
    have := hown.cellAt i (by omega)
    rw [List.getElem?_map, hx] at this
    exact this)
  have HO := hd hown
  obtain ⟨r, hr⟩ : ∃ r : Int, (if fst l < l.length then (fst l : Int) else -1) = r := ⟨_, rfl⟩
  rw [hr]
  replace hr := hd hr
  clear hown
  go_enter Try.func33, Try.ntmps33
  go_wp2_with fail
  go_loop [4] (fun i => ∃ k : Nat, k ≤ l.length ∧ i = .int .i64 k ∧ Hid (∀ i, i < k → l[i]? = some true)) (fun i => l.length - (intOf i).toNat)
  case atStart => exact ⟨0, Nat.zero_le _, rfl, hd (fun i hi => by omega)⟩
  case round =>
    obtain ⟨k, hk, rfl, hpre⟩ := hrel
    by_cases hlt : k < l.length
    · obtain ⟨q, hq⟩ : ∃ q, l[k]? = some q := ⟨l[k], by simp [hlt]⟩
      have c0 : w.cell? ⟨g, k, none⟩ = some (.bool q) := hc.out k q hq
      have hk0 : (0 : Int) ≤ k := by omega
      have hk1 : (k : Int) < l.length := by omega
      cases q with
      | false =>
        have f0 := HO.out.frozenAt k
        have hf := fst_at hpre.out hq
        have HR : Hid (r = (k : Int)) := hd (by rw [← hr.out, hf, if_pos hlt])
        have HS := hd (HO.out.stored k (.bool true)).1
        clear hq
        go_wp2
        refine bodyPost_ret (v := .tuple #[.slice (some ⟨g, 0, none⟩) l.length cap, .int .i64 (k : Int)]) (by simp [results, Try.results33, go_sem]) rfl ?_
        refine ⟨by rw [HR.out], ?_, Keep.set _ g k _ _ (by simp)⟩
        first
          | (rw [hf, List.map_set]; exact HS.out)
          | exact HS.out
      | true =>
        have HP : Hid (∀ i, i < k + 1 → l[i]? = some true) := hd (fun i hi => by
          rcases Nat.lt_or_ge i k with h1 | h1
          · exact hpre.out i h1
          · have : i = k := by omega
            subst this; exact hq)
        clear hq
        go_wp2
        go_round
        case rel => exact ⟨k + 1, by omega, by go_num, HP⟩
        case measure => simp [intOf]; omega
    · obtain rfl : k = l.length := by omega
      have h1 := fst_step hpre.out (Nat.le_refl _)
      have h2 := fst_le l
      have hf : fst l = l.length := by omega
      have HR : Hid (r = -1) := hd (by rw [← hr.out, hf, if_neg (by omega)])
      have HF := hd hf
      clear hf h1 h2
      go_wp2
      refine bodyPost_ret (v := .tuple #[.slice (some ⟨g, 0, none⟩) l.length cap, .int .i64 (-1)]) (by simp [results, Try.results33, go_sem]) rfl ?_
      refine ⟨by rw [HR.out], ?_, Keep.refl _ _⟩
      have e1 : l.set l.length true = l := List.set_eq_of_length_le (Nat.le_refl _)
      have e2 : (l.map cB).set l.length (cB true) = l.map cB := List.set_eq_of_length_le (by simp)
      first
        | (rw [HF.out, e1]; exact HO.out)
        | (rw [HF.out, e2]; exact HO.out)
        | (rw [e2]; exact HO.out)
theorem empty_lit (w : World) : ∃ b, OBoolS (w.alloc (.cells #[] 4)) (.slice (some ⟨w.heap.size, 0, none⟩) 0 0) [] b := ⟨_, so_empty _ _ _ _ (heap_alloc_new w _)⟩
def TP (p0 : List Bool) (W : World) (e : Ending) (w' : World) : Prop := ∃ u0 d0, e = .returned (.tuple #[u0, .int .i64 (take1 p0)]) ∧ OBoolS w' u0 (take0 p0) d0 ∧ Below W.heap.size W w'
set_option maxHeartbeats 1000000 in
theorem spec_take (p0 : List Bool) (v0 : Value) (b0 : List Nat) (W : World) (z0 : z_BoolS p0 ≤ 1048576) (h0 : OBoolS W v0 p0 b0) :
    Calls Try.prog 19 #[v0] W fun e w' => TP p0 W e w' := by
  unfold z_BoolS at z0
  have HOK := hd (mapOk_any v0 p0 b0 W h0 (by omega))
  rcases so_cases h0 with ⟨rfl, rfl, rfl⟩ | ⟨g, cap, rfl, _, hg, hown, hc⟩
  · have hq : okB [] = false := rfl
    rw [hq] at HOK
    clear h0
    go_enter Try.func19, Try.ntmps19
    go_wp2_with (go_at_call 11; refine HOK.out.mono ?_; rintro e w' ⟨rfl, rfl⟩)
    obtain ⟨b, hb⟩ := empty_lit W
    refine bodyPost_ret (v := .tuple #[.slice (some ⟨W.heap.size, 0, none⟩) 0 0, .int .i64 (-1)]) (by simp [results, Try.results19, go_sem]) rfl ?_
    exact ⟨_, b, rfl, hb, (Below.refl _ _).alloc (Nat.le_refl _) _⟩
  · by_cases h16 : p0.length = 16
    · have hq : okB p0 = true := by simp [okB, h16]
      rw [hq] at HOK
      have HC := hd (fun X (hX : Below W.heap.size W X) j u (hj : (p0.map cB)[j]? = some u) => src (w := X) (g := g) (off := 0) (c := cB) (bs := p0) (fun j b hb => by rw [Nat.zero_add]; exact (hX.cell (p := ⟨g, j, none⟩) hg).trans (hc j b hb)) j u hj)
      have hpos : 0 < p0.length := by omega
      have hsm : p0.length ≤ 1000 := by omega
      clear h0 hc hown h16
      go_enter Try.func19, Try.ntmps19
      go_wp2_with (first | (go_at_call 11; refine HOK.out.mono ?_; rintro e w' ⟨rfl, rfl⟩) | (at_builtin; refine wpList_fresh (c := cB) Try.underlying24 info_BoolS rfl (by decide) rfl _ _ rfl _ rfl ⟨g, 0, none⟩ p0 p0.length cap rfl (by omega) (by omega) rfl (HC.out _ ((Below.refl _ _).alloc (Nat.le_refl _) _)) ?_))
      intro cap' cur hrow
      have hbel : Below W.heap.size W ((W.alloc (.cells #[] 4)).drew.alloc (.cells cur 4)) := (((Below.refl _ W).alloc (Nat.le_refl _) _).drew).alloc (by simp) _
      have hrw : ((W.alloc (.cells #[] 4)).drew.alloc (.cells cur 4)).heap[W.heap.size + 1]? = some (.cells cur 4 (0, 0)) := heap_at _ _ _ (by simp)
      have HT := hd (l11Take_any (W.heap.size + 1) cap' p0 _ (by omega) (hrow.out.own hrw (Nat.zero_le _)))
      have HB := hd hbel
      obtain ⟨r, hr⟩ : ∃ r : Int, (if fst p0 < p0.length then (fst p0 : Int) else -1) = r := ⟨_, rfl⟩
      rw [hr] at HT
      have HR := hd hr
      clear hbel hrw HC hr
      go_wp2_with (go_at_call 33; refine HT.out.mono ?_; rintro e w' ⟨rfl, hO, hK⟩)
      refine bodyPost_ret (v := .tuple #[.slice (some ⟨W.heap.size + 1, 0, none⟩) p0.length cap', .int .i64 r]) (by simp [results, Try.results19, go_sem]) rfl ?_
      exact ⟨.slice (some ⟨W.heap.size + 1, 0, none⟩) p0.length cap', _, by unfold take1; rw [hq, ← HR.out]; simp, ⟨by unfold take0; rw [hq]; simpa using hO, rfl⟩, HB.out.trans (hK.below (by simp) HB.out.size)⟩
    · have hq : okB p0 = false := by simp [okB, h16]
      rw [hq] at HOK
      clear h0 hown hc
      go_enter Try.func19, Try.ntmps19
      go_wp2_with (go_at_call 11; refine HOK.out.mono ?_; rintro e w' ⟨rfl, rfl⟩)
      obtain ⟨b, hb⟩ := empty_lit W
      refine bodyPost_ret (v := .tuple #[.slice (some ⟨W.heap.size, 0, none⟩) 0 0, .int .i64 (-1)]) (by simp [results, Try.results19, go_sem]) rfl ?_
      exact ⟨_, b, by unfold take1; rw [hq]; rfl, by unfold take0; rw [hq]; exact hb, (Below.refl _ _).alloc (Nat.le_refl _) _⟩
def GP (p0 : List Bool) (f : Int) (W : World) (e : Ending) (w' : World) : Prop := ∃ u0 d0, e = .returned (.tuple #[u0, .bool (giveB p0 f)]) ∧ OBoolS w' u0 (give0 p0 f) d0 ∧ Below W.heap.size W w'
set_option maxHeartbeats 2000000 in
theorem spec_give (p0 : List Bool) (f : Int) (v0 : Value) (b0 : List Nat) (W : World) (z0 : z_BoolS p0 ≤ 1048576) (h0 : OBoolS W v0 p0 b0) (r1 : Rng f) :
    Calls Try.prog 22 #[v0, .int .i64 f] W fun e w' => GP p0 f W e w' := by
  unfold z_BoolS at z0
  have HOK := hd (mapOk_any v0 p0 b0 W h0 (by omega))
  by_cases h16 : p0.length = 16
  · have hq : okB p0 = true := by simp [okB, h16]
    rw [hq] at HOK
    rcases so_cases h0 with ⟨rfl, rfl, rfl⟩ | ⟨g, cap, rfl, _, hg, hown, hc⟩
    · simp at h16
    have HC := hd (fun X (hX : Below W.heap.size W X) j u (hj : (p0.map cB)[j]? = some u) => src (w := X) (g := g) (off := 0) (c := cB) (bs := p0) (fun j b hb => by rw [Nat.zero_add]; exact (hX.cell (p := ⟨g, j, none⟩) hg).trans (hc j b hb)) j u hj)
    have hpos : 0 < p0.length := by omega
    have hsm : p0.length ≤ 1000 := by omega
    obtain ⟨r10, r11⟩ := r1
    clear h0 hc hown h16
    go_enter Try.func22, Try.ntmps22
    go_wp2_with (first | (go_at_call 11; refine HOK.out.mono ?_; rintro e w' ⟨rfl, rfl⟩) | (at_builtin; refine wpList_fresh (c := cB) Try.underlying24 info_BoolS rfl (by decide) rfl _ _ rfl _ rfl ⟨g, 0, none⟩ p0 p0.length cap rfl (by omega) (by omega) rfl (HC.out _ ((Below.refl _ _).alloc (Nat.le_refl _) _)) ?_))
    intro cap' cur hrow
    have hbel : Below W.heap.size W (((W.alloc (.cells #[] 4)).alloc (.cells cur 4)).drew) := (((Below.refl _ W).alloc (Nat.le_refl _) _).alloc (by simp) _).drew
    have hrw : (((W.alloc (.cells #[] 4)).alloc (.cells cur 4)).drew).heap[W.heap.size + 1]? = some (.cells cur 4 (0, 0)) := heap_at _ _ _ (by simp)
    have hown := hrow.out.own (B := 0) hrw (Nat.zero_le _)
    obtain ⟨V, hV⟩ : ∃ V, ((W.alloc (.cells #[] 4)).alloc (.cells cur 4)).drew = V := ⟨_, rfl⟩
    rw [hV] at hbel hown ⊢
    have HO := hd hown
    have HB := hd hbel
    clear hbel hrw HC hrow hV hown
    by_cases c1 : f < 0
    · have hg0 : giveB p0 f = false := by unfold giveB; simp [show ¬ (0 ≤ f) by omega]
      have d1 : decide (f < 0) = true := by simp [c1]
      go_wp2
      refine bodyPost_ret (v := .tuple #[.slice (some ⟨W.heap.size + 1, 0, none⟩) p0.length cap', .bool false]) (by simp [results, Try.results22, go_sem]) rfl ?_
      exact ⟨_, _, by rw [hg0], ⟨by unfold give0; rw [hq, hg0]; exact HO.out, rfl⟩, HB.out⟩
    · have d1 : decide (f < 0) = false := by simp; omega
      by_cases c2 : f < p0.length
      · have d2 : decide ((p0.length : Int) ≤ f) = false := by simp; omega
        obtain ⟨n, rfl⟩ : ∃ n : Nat, f = n := ⟨f.toNat, by omega⟩
        have hn : n < p0.length := by omega
        obtain ⟨q, hqn⟩ : ∃ q, p0[n]? = some q := ⟨p0[n], by simp [hn]⟩
        have c0 : V.cell? ⟨W.heap.size + 1, n, none⟩ = some (.bool q) := by
          have := HO.out.cellAt n (by omega)
          rw [List.getElem?_map, hqn] at this
          exact this
        have hgq : giveB p0 (n : Int) = q := by
          have e1 : decide ((0 : Int) ≤ (n : Int)) = true := by simp
          have e2 : decide ((n : Int) < (p0.length : Int)) = true := by simp [hn]
          have e3 : p0.getD (n : Int).toNat false = q := by rw [Int.toNat_natCast, List.getD_eq_getElem?_getD, hqn]; rfl
          unfold giveB
          rw [hq, e1, e2, e3]
          rfl
        have HGQ := hd hgq
        clear hgq hqn d1
        have d1 : decide ((n : Int) < 0) = false := by simp
        cases q with
        | false =>
          go_wp2
          refine bodyPost_ret (v := .tuple #[.slice (some ⟨W.heap.size + 1, 0, none⟩) p0.length cap', .bool false]) (by simp [results, Try.results22, go_sem]) rfl ?_
          exact ⟨_, _, by rw [HGQ.out], ⟨by unfold give0; rw [hq, HGQ.out]; exact HO.out, rfl⟩, HB.out⟩
        | true =>
          have f0 := HO.out.frozenAt n
          have HS := hd (HO.out.stored n (.bool false)).1
          go_wp2
          refine bodyPost_ret (v := .tuple #[.slice (some ⟨W.heap.size + 1, 0, none⟩) p0.length cap', .bool true]) (by simp [results, Try.results22, go_sem]) rfl ?_
          refine ⟨_, _, by rw [HGQ.out], ⟨?_, rfl⟩, HB.out.setCell (by simp) _⟩
          unfold give0
          rw [hq, HGQ.out]
          have e : (p0.set (n : Int).toNat false).map cB = (p0.map cB).set n (.bool false) := by rw [List.map_set]; rfl
          have el : (p0.set (n : Int).toNat false).length = p0.length := by simp
          simp only [if_true]
          rw [e, el]
          exact HS.out
      · have hg0 : giveB p0 f = false := by unfold giveB; simp [c2]
        have d2 : decide ((p0.length : Int) ≤ f) = true := by simp; omega
        go_wp2
        refine bodyPost_ret (v := .tuple #[.slice (some ⟨W.heap.size + 1, 0, none⟩) p0.length cap', .bool false]) (by simp [results, Try.results22, go_sem]) rfl ?_
        exact ⟨_, _, by rw [hg0], ⟨by unfold give0; rw [hq, hg0]; exact HO.out, rfl⟩, HB.out⟩
  · have hq : okB p0 = false := by simp [okB, h16]
    rw [hq] at HOK
    obtain ⟨a, c, rfl⟩ := gv_BoolS.slice h0
    have hg0 : giveB p0 f = false := by unfold giveB; rw [hq]; rfl
    clear h0
    go_enter Try.func22, Try.ntmps22
    go_wp2_with (go_at_call 11; refine HOK.out.mono ?_; rintro e w' ⟨rfl, rfl⟩)
    obtain ⟨b, hb⟩ := empty_lit W
    refine bodyPost_ret (v := .tuple #[.slice (some ⟨W.heap.size, 0, none⟩) 0 0, .bool false]) (by simp [results, Try.results22, go_sem]) rfl ?_
    exact ⟨_, b, by rw [hg0], by unfold give0; rw [hq]; exact hb, (Below.refl _ _).alloc (Nat.le_refl _) _⟩
theorem freeN_step (l : List Bool) (k : Nat) (q : Bool) (h : l[k]? = some q) : freeN (l.take (k + 1)) = freeN (l.take k) + (if q then 0 else 1) := by
  obtain ⟨h1, rfl⟩ := List.getElem?_eq_some_iff.1 h
  unfold freeN
  rw [List.take_succ_eq_append_getElem h1, List.filter_append]
  cases l[k] <;> simp
theorem freeN_le (l : List Bool) : freeN l ≤ l.length := List.length_filter_le _ _
set_option maxHeartbeats 1000000 in
theorem spec_free (p0 : List Bool) (v0 : Value) (b0 : List Nat) (W : World) (z0 : z_BoolS p0 ≤ 1048576) (h0 : OBoolS W v0 p0 b0) :
    Calls Try.prog 15 #[v0] W fun e w' => e = .returned (.int .i64 (free0 p0)) ∧ Below W.heap.size W w' := by
  unfold z_BoolS at z0
  have HOK := hd (mapOk_any v0 p0 b0 W h0 (by omega))
  by_cases h16 : p0.length = 16
  · have hq : okB p0 = true := by simp [okB, h16]
    rw [hq] at HOK
    rcases so_cases h0 with ⟨rfl, rfl, rfl⟩ | ⟨g, cap, rfl, _, hg, hown, hc⟩
    · simp at h16
    obtain ⟨r, hr⟩ : ∃ r, free0 p0 = r := ⟨_, rfl⟩
    have HR : Hid (r = (freeN p0 : Int)) := hd (by rw [← hr]; unfold free0; rw [hq]; rfl)
    rw [hr]
    have HC := hd hc
    have hsm : p0.length ≤ 1000 := by omega
    clear h0 hc hown h16 hr
    go_enter Try.func15, Try.ntmps15
    go_wp2_with (go_at_call 11; refine HOK.out.mono ?_; rintro e w' ⟨rfl, rfl⟩)
    go_loop [3, 4] (fun n i => ∃ (k m : Nat), k ≤ p0.length ∧ i = .int .i64 k ∧ n = .int .i64 m ∧ m ≤ 1000 ∧ Hid (m = freeN (p0.take k))) (fun _ i => p0.length - (intOf i).toNat)
    case atStart => exact ⟨0, 0, Nat.zero_le _, rfl, rfl, by omega, hd (by simp [freeN])⟩
    case round =>
      obtain ⟨k, m, hk, rfl, rfl, hm, HM⟩ := hrel
      by_cases hlt : k < p0.length
      · obtain ⟨q, hqk⟩ : ∃ q, p0[k]? = some q := ⟨p0[k], by simp [hlt]⟩
        have c0 : W.cell? ⟨g, k, none⟩ = some (.bool q) := HC.out k q hqk
        have hs := freeN_step p0 k q hqk
        have hle := freeN_le (p0.take (k + 1))
        rw [List.length_take] at hle
        have hk0 : (0 : Int) ≤ k := by omega
        have hk1 : (k : Int) < p0.length := by omega
        clear hqk
        cases q with
        | false =>
          have HS : Hid (m + 1 = freeN (p0.take (k + 1))) := hd (by have := HM.out; simp at hs; omega)
          have hm1 : m + 1 ≤ 1000 := by have := HS.out; omega
          clear hs hle
          go_wp2
          go_round
          case rel => exact ⟨k + 1, m + 1, by omega, by go_num, by go_num, hm1, HS⟩
          case measure => simp [intOf]; omega
        | true =>
          have HS : Hid (m = freeN (p0.take (k + 1))) := hd (by have := HM.out; simp at hs; omega)
          clear hs hle
          go_wp2
          go_round
          case rel => exact ⟨k + 1, m, by omega, by go_num, rfl, hm, HS⟩
          case measure => simp [intOf]; omega
      · obtain rfl : k = p0.length := by omega
        have HE : Hid (r = (m : Int)) := hd (by have h1 := HM.out; rw [List.take_length] at h1; rw [HR.out, h1])
        go_wp2
        go_ret
        exact ⟨TyA.ret_int HE.out.symm, Below.refl _ _⟩
  · have hq : okB p0 = false := by simp [okB, h16]
    rw [hq] at HOK
    obtain ⟨a, c, rfl⟩ := gv_BoolS.slice h0
    have hf : free0 p0 = 0 := by unfold free0; rw [hq]; rfl
    rw [hf]
    clear h0
    go_enter Try.func15, Try.ntmps15
    go_wp2_with (go_at_call 11; refine HOK.out.mono ?_; rintro e w' ⟨rfl, rfl⟩)
    go_ret
    exact ⟨rfl, Below.refl _ _⟩

end Go.Proofs.Ytjdmohadgonfdaa.MapS
