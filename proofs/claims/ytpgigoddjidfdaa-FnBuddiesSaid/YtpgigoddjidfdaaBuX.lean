/- Chapter 15, spec's side: the heap that is drawn (l15Some, DrawBuddyTake). Condition: none. -/
import Derived.Test.YtpgigoddjidfdaaBuH
import Derived.Test.YtpgigoddjidfdaaBuZ
import Derived.Test.YtpgigoddjidfdaaDrawE
namespace Go.Proofs.Ytpgigoddjidfdaa.BuX
open Go.RowKit Go.Deep Num RowC TyA TyM TyB TyR TyF TyP TyT BuS BuC TyV BuD BuE BuG BuH BuZ DrawE
set_option maxRecDepth 100000
set_option linter.unusedVariables false
set_option linter.unusedSimpArgs false

theorem tot_mem {L : List (List Int)} {n : Nat} (h : tot L ≤ n) : ∀ l ∈ L, l.length ≤ n := fun l hl => by
  obtain ⟨i, hi⟩ := List.getElem?_of_mem hl
  have := sumW_mem z_IntS L i l hi
  unfold tot at h; unfold z_IntS at *; omega
/-- Element i is another list, wherever that lies. -/
theorem put0 {w : World} {g n c i : Nat} {l : List (List Int)} {bs b : List Nat} {cs : List Value} (hn : bs.Nodup) (h : Out 35 1 (PE OIntS) w (.slice (some ⟨g, 0, none⟩) n c) l bs i cs b) {v : Value} {x : List Int} (hv : OIntS w v x (blk v)) (hi : i < l.length) :
    ∃ bs', OIntSS (w.setCell ⟨g, i, none⟩ v) (.slice (some ⟨g, 0, none⟩) n c) (l.set i x) bs' ∧ (∀ y ∈ bs', y ∈ bs ∨ y ∈ blk v) := by
  have h1 := h.set (good_pe gv_IntS) hn 0 (by omega) v
  rw [show i * 1 + 0 = i by omega] at h1
  have hcl := h.len
  obtain ⟨xs, bss, a1, a2, rfl, ai, ab, acs, a4⟩ := h1
  have hgv : ∀ y ∈ blk v, y ∉ [g] := fun y hy hyg => by
    simp at hyg
    subst hyg
    obtain ⟨_, q⟩ := hv.1
    obtain ⟨xs0, bss0, b1, _⟩ := id h
    rcases q with ⟨rfl, _⟩ | ⟨g', cap, cur, rfl, _, q3, _⟩
    · simp [blk] at hy; simp [Value.ownBlock] at hy
    · rw [blk_some] at hy
      simp at hy
      subst hy
      rcases b1.2 with ⟨hh, _⟩ | ⟨g2, cap2, cur2, hh, _, p3, _⟩
      · simp at hh
      · simp at hh
        rw [← hh.1] at p3
        rw [q3] at p3
        simp at p3
  have hv2 : OIntS (w.setCell ⟨g, i, none⟩ v) v x (blk v) := gv_IntS.keep hv (Keep.set w g i v [g] (by simp)) hgv
  refine ⟨blk (.slice (some ⟨g, 0, none⟩) n c) ++ (bss.set i (blk v)).flatten, ⟨xs, bss.set i (blk v), by simpa using a1, by simpa using a2, rfl, fun j y d hj hd => ?_⟩, fun y hy => ?_⟩
  · by_cases hji : j = i
    · subst hji
      rw [List.getElem?_set_self (by omega)] at hj hd
      simp at hj hd
      subst hj hd
      rw [acs]
      refine ⟨v, ?_, hv2⟩
      match cs, hcl with
      | [u], _ => rfl
    · rw [List.getElem?_set_ne (Ne.symm hji)] at hj hd
      exact a4 j y d hji hj hd
  · rcases List.mem_append.1 hy with h5 | h5
    · exact .inl (List.mem_append_left _ h5)
    · rcases mem_set (by omega) h5 with h6 | h6
      · exact .inl (List.mem_append_right _ h6)
      · exact .inr h6
/-- The first four lists. -/
theorem take4 {w : World} {g c : Nat} {L : List (List Int)} {bs : List Nat} (hL : L.length = 5) (h : OIntSS w (.slice (some ⟨g, 0, none⟩) 5 c) L bs) : ∃ bs', OIntSS w (.slice (some ⟨g, 0, none⟩) 4 c) (L.take 4) bs' ∧ (∀ y ∈ bs', y ∈ bs) ∧ 5 ≤ c := by
  obtain ⟨xs, bss, h1, h2, rfl, h4⟩ := h
  have hxl := h1.1
  rcases h1.2 with ⟨hh, _⟩ | ⟨g', cap, cur, hh, p2, p3, p4, p5, p6, p7⟩
  · simp at hh
  · simp at hh
    obtain ⟨rfl, hl, rfl⟩ := hh
    refine ⟨blk (.slice (some ⟨g, 0, none⟩) 4 c) ++ (bss.take 4).flatten, ⟨xs.take 4, bss.take 4, ⟨by simp; omega, .inr ⟨g, c, cur, by simp [hL], Nat.zero_le _, p3, by simp; omega, p5, p6, ?_⟩⟩, by simp; omega, rfl, fun i x b hx hb => ?_⟩, fun y hy => ?_, by omega⟩
    · have e : (L.take 4).length * 1 = 4 := by simp; omega
      rw [e, ← p7, List.take_take]
      congr 1
      omega
    · have hi : i < 4 := by have := (List.getElem?_eq_some_iff.1 hx).1; simp at this; omega
      rw [List.getElem?_take_of_lt hi] at hx hb
      have := h4 i x b hx hb
      rw [List.drop_take, List.take_take]
      rw [show min 1 (4 - i * 1) = 1 by omega]
      exact this
    · rcases List.mem_append.1 hy with h5 | h5
      · exact List.mem_append_left _ h5
      · obtain ⟨b, hb, hyb⟩ := List.mem_flatten.1 h5
        exact List.mem_append_right _ (List.mem_flatten.2 ⟨b, List.mem_of_mem_take hb, hyb⟩)
/-- In box q stands a heap of five lists, at block gb. -/
structure At (k : Fx) (w : World) (g q gb c : Nat) (L : List (List Int)) (bs : List Nat) (X : World) : Prop where
  five : L.length = 5
  row : OIntSS X (.slice (some ⟨gb, 0, none⟩) 5 c) L bs
  nd : bs.Nodup
  fr : ∀ y ∈ bs, w.heap.size < y ∧ y ≠ q
  box : X.heap[q]? = some (.cells #[.slice (some ⟨gb, 0, none⟩) 5 c] 26 (0, 0))
  res : X.heap[w.heap.size]? = some (.cells #[.slice none 0 0] 26 (0, 0))
  inv : Inv k w g X
theorem At.cell {k w g q gb c L bs X} (h : At k w g q gb c L bs X) : X.cell? ⟨q, 0, none⟩ = some (.slice (some ⟨gb, 0, none⟩) 5 c) := by rw [cell_of_row X _ 0 _ _ (0, 0) h.box]; rfl
theorem At.frozen {k w g q gb c L bs X} (h : At k w g q gb c L bs X) : X.frozen? ⟨q, 0, none⟩ = false := frozen_of_row X _ 0 _ _ h.box
theorem At.mem {k w g q gb c L bs X} (h : At k w g q gb c L bs X) : gb ∈ bs := h.row.own_sub gb (by rw [blk_some]; simp)
theorem At.lt {k w g q gb c L bs X} (h : At k w g q gb c L bs X) : gb < X.heap.size := h.row.lt (good_pe gv_IntS) gb h.mem
theorem At.qlt {k w g q gb c L bs X} (h : At k w g q gb c L bs X) : q < X.heap.size := (Array.getElem?_eq_some_iff.1 h.box).1
/-- The cursor has gone on. -/
theorem At.drawn {k w g q gb c L bs X Y} (h : At k w g q gb c L bs X) (hg : g < w.heap.size) (hq : w.heap.size < q) (hI : Inv k X g Y) : At k w g q gb c L bs Y := by
  have hk : Keep [g] X Y := Keep.of_grown' hI.2
  refine ⟨h.five, h.row.keep (good_pe gv_IntS) hk (fun y hy hyg => by have := h.fr y hy; simp at hyg; omega), h.nd, h.fr, (hk.block q h.qlt (by simp; omega)).trans h.box, (hk.block _ (Array.getElem?_eq_some_iff.1 h.res).1 (by simp; omega)).trans h.res, h.inv.trans hI⟩
theorem At.below {k w g q gb c L bs X Y} (h : At k w g q gb c L bs X) (hw : On k w g) (hb : Below X.heap.size X Y) : At k w g q gb c L bs Y :=
  ⟨h.five, h.row.keep (good_pe gv_IntS) (Keep.of_below [] hb) (by simp), h.nd, h.fr, (hb.block q h.qlt).trans h.box, (hb.block _ (Array.getElem?_eq_some_iff.1 h.res).1).trans h.res, h.inv.below hw (hb.mono h.inv.size)⟩
/-- Another heap in the same row. -/
theorem At.next {k w g q gb c L bs X Y L' bs'} (h : At k w g q gb c L bs X) (hw : On k w g) (hq : w.heap.size < q) (h5 : L'.length = 5) (hr : OIntSS Y (.slice (some ⟨gb, 0, none⟩) 5 c) L' bs') (hn : bs'.Nodup) (hf : ∀ y ∈ bs', y ∈ bs ∨ X.heap.size ≤ y) (hk : Keep [gb] X Y) : At k w g q gb c L' bs' (Y.setCell ⟨q, 0, none⟩ (.slice (some ⟨gb, 0, none⟩) 5 c)) := by
  have hgb := h.fr gb h.mem
  have hql := h.qlt
  have hrs := (Array.getElem?_eq_some_iff.1 h.res).1
  have eq : Y.heap[q]? = _ := (hk.block q hql (by simp; omega)).trans h.box
  have er : Y.heap[w.heap.size]? = _ := (hk.block _ hrs (by simp; omega)).trans h.res
  have hS := Keep.set Y q 0 (.slice (some ⟨gb, 0, none⟩) 5 c) [q] (by simp)
  have hfr : ∀ y ∈ bs', w.heap.size < y ∧ y ≠ q := fun y hy => by
    rcases hf y hy with h1 | h1
    · exact h.fr y h1
    · omega
  refine ⟨h5, hr.keep (good_pe gv_IntS) hS (fun y hy hyq => by have := hfr y hy; simp at hyq; omega), hn, hfr, ?_, ?_, ?_⟩
  · rw [heap_setCell_same Y q 0 _ _ _ eq]; rfl
  · exact (hS.block _ (Array.getElem?_eq_some_iff.1 er).1 (by simp; omega)).trans er
  · refine h.inv.below hw ?_
    exact (hk.below (n := w.heap.size) (by simp; omega) (by omega)).trans (hS.below (by simp; omega) (by have := hk.size; omega))
/-- In box q stands some heap that is handed back. -/
def EndH (k : Fx) (w : World) (g q : Nat) (X : World) : Prop := ∃ a n c L bs, OIntSS X (.slice a n c) L bs ∧ L.length ≤ 5 ∧ tot L ≤ 2000 ∧ (∀ y ∈ bs, w.heap.size < y) ∧ X.heap[q]? = some (.cells #[.slice a n c] 26 (0, 0)) ∧ X.heap[w.heap.size]? = some (.cells #[.slice none 0 0] 26 (0, 0)) ∧ Inv k w g X
theorem At.end {k w g q gb c L bs X} (h : At k w g q gb c L bs X) (ht : tot L ≤ 2000) : EndH k w g q X := ⟨_, _, _, L, bs, h.row, by have := h.five; omega, ht, fun y hy => (h.fr y hy).1, h.box, h.res, h.inv⟩
/-- A list of one's own is put in place o. -/
theorem At.put {k w g q gb c L bs X Y o l x} (h : At k w g q gb c L bs X) (hw : On k w g) (hq : w.heap.size < q) (ho : L[o]? = some l) {b : List Nat} {cs : List Value} (hO : Out 35 1 (PE OIntS) Y (.slice (some ⟨gb, 0, none⟩) 5 c) L bs o cs b) (hb : ∀ y ∈ b, y ∈ bs) {v : Value} (hv : OIntS Y v x (blk v)) (hK : Keep b X Y) (hvb : ∀ y ∈ blk v, w.heap.size < y) (ht : tot L ≤ 600) (hx : x.length ≤ 600) : EndH k w g q (Y.setCell ⟨gb, o, none⟩ v) := by
  have hol : o < L.length := (List.getElem?_eq_some_iff.1 ho).1
  obtain ⟨bs', h1, h2⟩ := put0 h.nd hO hv hol
  have hgb := h.fr gb h.mem
  have hql := h.qlt
  have hrs := (Array.getElem?_eq_some_iff.1 h.res).1
  have hS := Keep.set Y gb o v [gb] (by simp)
  have hKq : ∀ y ∈ b, w.heap.size < y ∧ y ≠ q := fun y hy => h.fr y (hb y hy)
  have eq : Y.heap[q]? = _ := (hK.block q hql (fun hy => by have := hKq _ hy; omega)).trans h.box
  have er : Y.heap[w.heap.size]? = _ := (hK.block _ hrs (fun hy => by have := hKq _ hy; omega)).trans h.res
  refine ⟨_, _, _, L.set o x, bs', h1, by rw [List.length_set]; have := h.five; omega, by have := tot_set L o l x ho; omega, fun y hy => ?_, (hS.block q (Array.getElem?_eq_some_iff.1 eq).1 (by simp; omega)).trans eq, (hS.block _ (Array.getElem?_eq_some_iff.1 er).1 (by simp; omega)).trans er, ?_⟩
  · rcases h2 y hy with h3 | h3
    · exact (h.fr y h3).1
    · exact hvb y h3
  · refine h.inv.below hw ?_
    exact (hK.below (n := w.heap.size) (fun y hy => by have := hKq y hy; omega) (by omega)).trans (hS.below (by simp; omega) (by have := hK.size; omega))
def SomeP (k : Fx) (w : World) (g : Nat) (e : Ending) (w' : World) : Prop := ∃ u L bs, e = .returned (.agg #[u]) ∧ OIntSS w' u L bs ∧ L.length ≤ 5 ∧ tot L ≤ 2000 ∧ (∀ y ∈ bs, w.heap.size ≤ y) ∧ Inv k w g w'
theorem EndH.done {k w g X a n c L bs} (hw : On k w g) (h : OIntSS X (.slice a n c) L bs) (h5 : L.length ≤ 5) (ht : tot L ≤ 2000) (hf : ∀ y ∈ bs, w.heap.size < y) (hr : X.heap[w.heap.size]? = some (.cells #[.slice none 0 0] 26 (0, 0))) (hI : Inv k w g X) :
    SomeP k w g (.returned (.agg #[.slice a n c])) (X.setCell ⟨w.heap.size, 0, none⟩ (.slice a n c)) ∧ (X.setCell ⟨w.heap.size, 0, none⟩ (.slice a n c)).cell? ⟨w.heap.size, 0, none⟩ = some (.slice a n c) := by
  have hS := Keep.set X w.heap.size 0 (.slice a n c) [w.heap.size] (by simp)
  refine ⟨⟨_, L, bs, rfl, h.keep (good_pe gv_IntS) hS (fun y hy hyr => by have := hf y hy; simp at hyr; omega), h5, ht, fun y hy => Nat.le_of_lt (hf y hy), hI.below hw (hS.below (by simp) hI.size)⟩, ?_⟩
  rw [cell_of_row _ _ 0 _ _ (0, 0) (heap_setCell_same X _ 0 _ _ _ hr)]; rfl
theorem giveM_len (L : List (List Int)) (f : Int) : (giveM L f).1.length = L.length := by
  unfold giveM
  split
  · exact meet_len _ _ _ _
  · rfl
theorem giveM_tot (L : List (List Int)) (f : Int) : tot (giveM L f).1 ≤ tot L + 1 := by
  unfold giveM
  split
  · exact meet_tot _ _ _ _
  · exact Nat.le_succ _
set_option maxHeartbeats 4000000 in
theorem some_any (k : Fx) (w : World) (g : Nat) (hon : On k w g) (m : Int) (hm0 : 1 ≤ m) (hm1 : m ≤ 100) :
    Calls Try.prog 28 #[.pointer (some ⟨g, 0, none⟩), .int .i64 m] w fun e w' => SomeP k w g e w' := by
  have HON := hd hon
  have HGL := hd hon.lt
  clear hon
  go_enter Try.func28, Try.ntmps28
  obtain ⟨W1, hW1⟩ : ∃ X, w.alloc (.cells #[.slice none 0 0] 26) = X := ⟨_, rfl⟩
  have hb1 : Below w.heap.size w W1 := by rw [← hW1]; exact (Below.refl _ _).alloc (Nat.le_refl _) _
  have e1 : W1.heap[w.heap.size]? = some (.cells #[.slice none 0 0] 26 (0, 0)) := by rw [← hW1]; exact heap_at _ _ _ rfl
  have hs1 : W1.heap.size = w.heap.size + 1 := by rw [← hW1]; simp
  go_wp2_with (go_at_call 22; fail)
  refine (all_new W1).mono ?_
  rintro e w1 ⟨gb0, bs0, rfl, hr0, hn0, hf0, hb2⟩
  obtain ⟨q, hq⟩ : ∃ q, w1.heap.size = q := ⟨_, rfl⟩
  obtain ⟨X1, hX1⟩ : ∃ X, w1.alloc (.cells #[.slice (some ⟨gb0, 0, none⟩) 5 5] 26) = X := ⟨_, rfl⟩
  have hA : At k w g q gb0 5 allL bs0 X1 := by
    have hb3 : Below w1.heap.size w1 X1 := by rw [← hX1]; exact (Below.refl _ _).alloc (Nat.le_refl _) _
    have hlt := hr0.lt (good_pe gv_IntS)
    have hbb : Below w.heap.size w X1 := hb1.trans ((hb2.mono (by omega)).trans (hb3.mono (by have := hb2.size; omega)))
    refine ⟨rfl, hr0.keep (good_pe gv_IntS) (Keep.of_below [] hb3) (by simp), hn0, fun y hy => ?_, ?_, ?_, ?_⟩
    · have := hf0 y hy; have := hlt y hy; omega
    · rw [← hX1, ← hq]; exact heap_at _ _ _ rfl
    · exact (hb3.block _ (by have := hb2.size; omega)).trans ((hb2.block _ (by omega)).trans e1)
    · exact (Inv.refl HON.out).below HON.out hbb
  have HQ : Hid (w.heap.size < q) := hd (by have := hb2.size; omega)
  have HA := hd hA
  have HT0 : Hid (tot allL ≤ 1) := hd (by decide)
  clear hA hr0 hn0 hf0 hb2 hb1 e1 hs1 hW1
  have C1 := hd (below_E k X1 g m HA.out.inv.1 (by omega) (by omega))
  go_wp2_with (go_at_call 52; fail)
  clear hX1 hq
  refine C1.out.mono ?_
  rintro e wj ⟨J0, hJ0, hJ1, rfl, hI1⟩
  obtain ⟨J, rfl⟩ := Int.eq_ofNat_of_zero_le hJ0
  have HJ : Hid (J ≤ 100) := hd (by omega)
  have HA1 := hd (HA.out.drawn HGL.out HQ.out hI1)
  clear C1 HA hI1 hJ0 hJ1
  go_wp2_with fail
  go_loopw [6] (fun iv wr => ∃ j : Nat, j ≤ J ∧ iv = .int .i64 j ∧ Hid (∃ gb c L bs, At k w g q gb c L bs wr ∧ tot L ≤ 1 + 5 * (J - j))) (fun iv _ => (intOf iv).toNat)
  case atStart => exact ⟨J, Nat.le_refl _, rfl, hd ⟨_, _, _, _, HA1.out, by have := HT0.out; omega⟩⟩
  case round =>
    clear HA1 HT0
    obtain ⟨j1, hj1, rfl, HR⟩ := hrel
    obtain ⟨gb, c, L, bs, hA, hT⟩ := HR.out
    have HA := hd hA
    have HT := hd hT
    clear hA hT HR
    rcases j1 with _ | j
    · have hd0 : decide ((0 : Int) < ((0 : Nat) : Int)) = false := rfl
      have C2 := hd (once_E k wr g 10 HA.out.inv.1 (by omega))
      go_wp2_with (go_at_call 53; fail)
      refine C2.out.mono ?_
      rintro e w2 ⟨p, rfl, hI2⟩
      have HA2 := hd (HA.out.drawn HGL.out HQ.out hI2)
      have HTJ : Hid (tot L ≤ 501) := hd (by have := HT.out; have := HJ.out; omega)
      clear C2 hI2 HA HT
      cases p with
      | false =>
        have HEN := hd (HA2.out.end (by have := HTJ.out; omega))
        obtain ⟨va, vn, vc, Lz, bsz, hrz, h5z, htz, hfz, hbz, hez, hIz⟩ := HEN.out
        have cqz : w2.cell? ⟨q, 0, none⟩ = some (.slice va vn vc) := by rw [cell_of_row w2 _ 0 _ _ (0, 0) hbz]; rfl
        have crz : w2.cell? ⟨w.heap.size, 0, none⟩ = some (.slice none 0 0) := by rw [cell_of_row w2 _ 0 _ _ (0, 0) hez]; rfl
        have frz := frozen_of_row w2 _ 0 _ _ hez
        obtain ⟨hD1, hD2⟩ := EndH.done HON.out hrz h5z htz hfz hez hIz
        have HD1 := hd hD1
        have HD2 := hd hD2
        clear hD1 hD2 hrz hbz hez hIz htz hfz
        go_wp2
        have r1 := HD2.out
        refine bodyPost_ret (v := .agg #[.slice va vn vc]) (by simp [results, Try.results28, go_sem, r1]) rfl ?_
        exact HD1.out
      | true =>
        have C3 := hd (below_E k w2 g 5 HA2.out.inv.1 (by omega) (by omega))
        go_wp2_with (go_at_call 52; fail)
        refine C3.out.mono ?_
        rintro e w3 ⟨o0, ho0, ho1, rfl, hI3⟩
        obtain ⟨o, rfl⟩ := Int.eq_ofNat_of_zero_le ho0
        have HA3 := hd (HA2.out.drawn HGL.out HQ.out hI3)
        clear C3 hI3 HA2
        have C4 := hd (below_E k w3 g 3 HA3.out.inv.1 (by omega) (by omega))
        go_wp2_with (go_at_call 52; fail)
        refine C4.out.mono ?_
        rintro e w4 ⟨s, hs0, hs1, rfl, hI4⟩
        have HA := hd (HA3.out.drawn HGL.out HQ.out hI4)
        have hol : o < L.length := by have := HA.out.five; omega
        obtain ⟨l, hlo⟩ : ∃ l, L[o]? = some l := ⟨L[o], by simp [hol]⟩
        have HLO := hd hlo
        have HL3 : Hid (l.length ≤ 501) := hd (tot_mem HTJ.out l (List.mem_of_getElem? hlo))
        have ho5 : (o : Int) < 5 := ho1
        have HCW := hd HA.out.cell
        clear C4 hI4 HA3 hlo hol
        rcases (by omega : s = 0 ∨ s = 1 ∨ s = 2) with rfl | rfl | rfl
        · go_wp2_with fail
          obtain ⟨lx, cs, b, hlx, ⟨u, rfl, hu⟩, hout⟩ := RowC.Row.out (i := o) HA.out.row (by have := HA.out.five; omega)
          obtain rfl : l = lx := by have h1 := HLO.out; rw [hlx] at h1; simpa using h1.symm
          obtain ⟨pu, cu, rfl⟩ := gv_IntS.slice hu
          have cel := hout.cell 0 _ rfl
          rw [show o * 1 + 0 = o by omega] at cel
          have hgbg : gb ≠ g := fun e => by have := HA.out.fr gb HA.out.mem; have := HGL.out; omega
          have hgbq : gb ≠ q := (HA.out.fr gb HA.out.mem).2
          clear hlx hu hout
          have HO5 : Hid (o < 5) := hd (by omega)
          refine wp_region_held_drew (S := (fun X => X.cell? ⟨q, 0, none⟩ = some (.slice (some ⟨gb, 0, none⟩) 5 c))) (by kernel_rfl) ?_ (fun hHeld => ?_)
          · exact HCW.out
          obtain ⟨w0, hw0⟩ : ∃ X, w4.drew = X := ⟨_, rfl⟩
          have hA_w0 : At k w g q gb c L bs w0 := by rw [← hw0]; exact HA.out.below HON.out (Below.refl _ _).drew
          have cel_w0 : w0.cell? ⟨gb, o, none⟩ = some (.slice pu l.length cu) := by rw [← hw0]; exact cel
          rw [hw0] at hHeld ⊢
          clear hw0 cel
          refine HeL.tk 0 ?_
          refine HeL.tk 1 ?_
          refine HeL.tk 2 ?_
          refine HeL.tk 3 ?_
          refine HeL.tk 4 ?_
          refine HeL.tk 5 ?_
          refine HeL.tk 6 ?_
          refine HeL.tk 8 ?_
          refine HeL.rd [7, 9] ?_
          refine HeL.cn (fun K hK => ?_) ?_
          · go_simp
            refine HeL.st hK (hA_w0.cell) (fun hH2 => ?_)
            clear hK K hHeld
            have hHeld := hH2; clear hH2
            refine HeL.rd [9] ?_
            refine HeL.cn (fun K hK => ?_) AllReadyH.nil
            go_simp
            go_at_call 52
            refine (below_E k w0 g 18 hA_w0.inv.1 (by omega) (by omega)).mono ?_
            rintro e wA ⟨x, hx0, hx1, rfl, hI⟩
            have hA_wA := hA_w0.drawn HGL.out HQ.out hI
            have cel_wA := hI.cell hgbg cel_w0
            obtain ⟨x1, hy1⟩ : ∃ x1, IntKind.i64.wrap (x - 1) = x1 := ⟨_, rfl⟩
            try go_wp2_with fail
            refine HeL.st hK (hA_wA.cell) (fun hH2 => ?_)
            clear hK K hHeld
            have hHeld := hH2; clear hH2
            refine HeL.tk 10 ?_
            refine HeL.rd [11] ?_
            refine HeL.cn (fun K hK => ?_) AllReadyH.nil
            go_simp
            obtain ⟨wB, hwB⟩ : ∃ X, wA.alloc (.cells #[.int .i64 x1] 3) = X := ⟨_, rfl⟩
            have hbB : Below wA.heap.size wA wB := by rw [← hwB]; exact (Below.refl _ _).alloc (Nat.le_refl _) _
            have ebB : wB.heap[wA.heap.size]? = some (.cells #[.int .i64 x1] 3 (0, 0)) := by rw [← hwB]; exact heap_at _ _ _ rfl
            have hA_wB := hA_wA.below HON.out hbB
            have cel_wB : wB.cell? ⟨gb, o, none⟩ = some (.slice pu l.length cu) := (hbB.cell (p := ⟨gb, o, none⟩) hA_wA.lt).trans cel_wA
            have hgW : w.heap.size < wA.heap.size := by have := hA_wA.qlt; have := HQ.out; omega
            obtain ⟨gA, hgA⟩ : ∃ n, wA.heap.size = n := ⟨_, rfl⟩
            rw [hwB]
            rw [hgA] at ebB hgW ⊢
            clear hwB
            refine HeL.st hK (hA_wB.cell) (fun hH2 => ?_)
            clear hK K hHeld
            have hHeld := hH2; clear hH2
            refine HeL.rd [12] ?_
            refine HeL.cn (fun K hK => ?_) AllReadyH.nil
            obtain ⟨lx, cs, b, hlx, ⟨u', rfl, hu⟩, hout⟩ := RowC.Row.out (i := o) hA_wB.row (by have := hA_wB.five; have := HO5.out; omega)
            obtain rfl : l = lx := by have h1 := HLO.out; rw [hlx] at h1; simpa using h1.symm
            have hc1 := hout.cell 0 u' rfl
            rw [show o * 1 + 0 = o by omega, cel_wB] at hc1
            obtain rfl : Value.slice pu l.length cu = u' := by simpa using hc1
            have hbsub := hout.sub
            obtain ⟨hown, rfl⟩ := hu
            clear hc1 hlx
            refine step_append_so (c := cI) Try.underlying35 info_IntS rfl (by decide) (fun _ => rfl) rfl _ _ rfl (w.heap.size + 1) (.slice pu l.length cu) l l.length rfl rfl (own_up hown (fun y hy => by have := hA_wB.fr y (hbsub y hy); omega)) gA 0 [x1] 1 1 rfl rfl (fun j b hj => by
              have h0 : j = 0 := by have := (List.getElem?_eq_some_iff.1 hj).1; simp at this; omega
              subst h0
              simp at hj
              subst hj
              rw [cell_of_row wB _ _ _ _ (0, 0) ebB]; rfl) (by have := HL3.out; simp; omega) (by have := hA_wB.qlt; have := HQ.out; omega) ?_
            intro vC wC hv1 hv2 hv3
            obtain ⟨aC, cC, rfl⟩ := own_slice hv1
            have hvs : OIntS wC (.slice aC (l ++ [x1]).length cC) (l ++ [x1]) (blk (.slice aC (l ++ [x1]).length cC)) := ⟨own_zero hv1, rfl⟩
            have hvl := own_lt hv1
            obtain ⟨nl, hnl⟩ : ∃ nl, (l ++ [x1]).length = nl := ⟨_, rfl⟩
            rw [hnl] at hvs hvl ⊢
            clear hv1 hnl
            have hkC : Keep (blk (.slice pu l.length cu)) wB wC := Keep.of_grown hv3
            have hout2 := hout.keep (good_pe gv_IntS) hA_wB.nd hkC
            have cel_wC := hout2.cell 0 _ rfl
            rw [show o * 1 + 0 = o by omega] at cel_wC
            have fr_wC : wC.frozen? ⟨gb, o, none⟩ = false := hout2.frozen o
            have eqC : wC.heap[q]? = _ := (hkC.block q hA_wB.qlt (fun hy => (hA_wB.fr q (hbsub q hy)).2 rfl)).trans hA_wB.box
            have cqC : wC.cell? ⟨q, 0, none⟩ = some (.slice (some ⟨gb, 0, none⟩) 5 c) := by rw [cell_of_row wC _ 0 _ _ (0, 0) eqC]; rfl
            refine HeL.st hK (cqC) (fun hH2 => ?_)
            clear hK K hHeld
            have hHeld := hH2; clear hH2
            refine HeL.tk 13 ?_
            refine HeL.rd [14] ?_
            refine HeL.cn (fun K hK => ?_) AllReadyH.nil
            go_simp
            have hql : q < wC.heap.size := (Array.getElem?_eq_some_iff.1 eqC).1
            have cqF : (wC.setCell ⟨gb, o, none⟩ (.slice aC nl cC)).cell? ⟨q, 0, none⟩ = some (.slice (some ⟨gb, 0, none⟩) 5 c) := by
              rw [cell_of_row _ _ 0 _ _ (0, 0) (((Keep.set wC gb o (.slice aC nl cC) [gb] (by simp)).block q hql (by simp; omega)).trans eqC)]; rfl
            refine HeL.st hK (cqF) (fun hH2 => ?_)
            clear hK K hHeld
            have hHeld := hH2; clear hH2
            refine wpAnyH_done (by kernel_rfl) ?_ _
            have HEN : Hid (EndH k w g q (wC.setCell ⟨gb, o, none⟩ (.slice aC nl cC))) := hd (hA_wB.put HON.out HQ.out HLO.out hout2 hbsub hvs hkC (fun y hy => (hvl y hy).1) (by have := HTJ.out; omega) (by have := HL3.out; simp; omega))
            obtain ⟨X, hX⟩ : ∃ X, wC.setCell ⟨gb, o, none⟩ (.slice aC nl cC) = X := ⟨_, rfl⟩
            rw [hX] at HEN ⊢
            clear hX hHeld cqF hql eqC cqC fr_wC cel_wC hout2 hkC hvs hvl hv2 hv3 hA_wB hA_wA hA_w0 cel_w0 cel_wA cel_wB hbB ebB hown hout hbsub hI HA
            obtain ⟨va, vn, vc, Lz, bsz, hrz, h5z, htz, hfz, hbz, hez, hIz⟩ := HEN.out
            have cqz : X.cell? ⟨q, 0, none⟩ = some (.slice va vn vc) := by rw [cell_of_row X _ 0 _ _ (0, 0) hbz]; rfl
            have crz : X.cell? ⟨w.heap.size, 0, none⟩ = some (.slice none 0 0) := by rw [cell_of_row X _ 0 _ _ (0, 0) hez]; rfl
            have frz := frozen_of_row X _ 0 _ _ hez
            obtain ⟨hD1, hD2⟩ := EndH.done HON.out hrz h5z htz hfz hez hIz
            have HD1 := hd hD1
            have HD2 := hd hD2
            clear hD1 hD2 hrz hbz hez hIz htz hfz
            go_wp2
            have r1 := HD2.out
            refine bodyPost_ret (v := .agg #[.slice va vn vc]) (by simp [results, Try.results28, go_sem, r1]) rfl ?_
            exact HD1.out
          refine HeL.cn (fun K hK => ?_) ?_
          · go_simp
            go_at_call 52
            refine (below_E k w0 g 18 hA_w0.inv.1 (by omega) (by omega)).mono ?_
            rintro e wA ⟨x, hx0, hx1, rfl, hI⟩
            have hA_wA := hA_w0.drawn HGL.out HQ.out hI
            have cel_wA := hI.cell hgbg cel_w0
            obtain ⟨x1, hy1⟩ : ∃ x1, IntKind.i64.wrap (x - 1) = x1 := ⟨_, rfl⟩
            try go_wp2_with fail
            refine HeL.st hK (hA_wA.cell) (fun hH2 => ?_)
            clear hK K hHeld
            have hHeld := hH2; clear hH2
            refine HeL.tk 10 ?_
            refine HeL.rd [7, 11] ?_
            refine HeL.cn (fun K hK => ?_) ?_
            · go_simp
              refine HeL.st hK (hA_wA.cell) (fun hH2 => ?_)
              clear hK K hHeld
              have hHeld := hH2; clear hH2
              refine HeL.rd [11] ?_
              refine HeL.cn (fun K hK => ?_) AllReadyH.nil
              go_simp
              obtain ⟨wB, hwB⟩ : ∃ X, wA.alloc (.cells #[.int .i64 x1] 3) = X := ⟨_, rfl⟩
              have hbB : Below wA.heap.size wA wB := by rw [← hwB]; exact (Below.refl _ _).alloc (Nat.le_refl _) _
              have ebB : wB.heap[wA.heap.size]? = some (.cells #[.int .i64 x1] 3 (0, 0)) := by rw [← hwB]; exact heap_at _ _ _ rfl
              have hA_wB := hA_wA.below HON.out hbB
              have cel_wB : wB.cell? ⟨gb, o, none⟩ = some (.slice pu l.length cu) := (hbB.cell (p := ⟨gb, o, none⟩) hA_wA.lt).trans cel_wA
              have hgW : w.heap.size < wA.heap.size := by have := hA_wA.qlt; have := HQ.out; omega
              obtain ⟨gA, hgA⟩ : ∃ n, wA.heap.size = n := ⟨_, rfl⟩
              rw [hwB]
              rw [hgA] at ebB hgW ⊢
              clear hwB
              refine HeL.st hK (hA_wB.cell) (fun hH2 => ?_)
              clear hK K hHeld
              have hHeld := hH2; clear hH2
              refine HeL.rd [12] ?_
              refine HeL.cn (fun K hK => ?_) AllReadyH.nil
              obtain ⟨lx, cs, b, hlx, ⟨u', rfl, hu⟩, hout⟩ := RowC.Row.out (i := o) hA_wB.row (by have := hA_wB.five; have := HO5.out; omega)
              obtain rfl : l = lx := by have h1 := HLO.out; rw [hlx] at h1; simpa using h1.symm
              have hc1 := hout.cell 0 u' rfl
              rw [show o * 1 + 0 = o by omega, cel_wB] at hc1
              obtain rfl : Value.slice pu l.length cu = u' := by simpa using hc1
              have hbsub := hout.sub
              obtain ⟨hown, rfl⟩ := hu
              clear hc1 hlx
              refine step_append_so (c := cI) Try.underlying35 info_IntS rfl (by decide) (fun _ => rfl) rfl _ _ rfl (w.heap.size + 1) (.slice pu l.length cu) l l.length rfl rfl (own_up hown (fun y hy => by have := hA_wB.fr y (hbsub y hy); omega)) gA 0 [x1] 1 1 rfl rfl (fun j b hj => by
                have h0 : j = 0 := by have := (List.getElem?_eq_some_iff.1 hj).1; simp at this; omega
                subst h0
                simp at hj
                subst hj
                rw [cell_of_row wB _ _ _ _ (0, 0) ebB]; rfl) (by have := HL3.out; simp; omega) (by have := hA_wB.qlt; have := HQ.out; omega) ?_
              intro vC wC hv1 hv2 hv3
              obtain ⟨aC, cC, rfl⟩ := own_slice hv1
              have hvs : OIntS wC (.slice aC (l ++ [x1]).length cC) (l ++ [x1]) (blk (.slice aC (l ++ [x1]).length cC)) := ⟨own_zero hv1, rfl⟩
              have hvl := own_lt hv1
              obtain ⟨nl, hnl⟩ : ∃ nl, (l ++ [x1]).length = nl := ⟨_, rfl⟩
              rw [hnl] at hvs hvl ⊢
              clear hv1 hnl
              have hkC : Keep (blk (.slice pu l.length cu)) wB wC := Keep.of_grown hv3
              have hout2 := hout.keep (good_pe gv_IntS) hA_wB.nd hkC
              have cel_wC := hout2.cell 0 _ rfl
              rw [show o * 1 + 0 = o by omega] at cel_wC
              have fr_wC : wC.frozen? ⟨gb, o, none⟩ = false := hout2.frozen o
              have eqC : wC.heap[q]? = _ := (hkC.block q hA_wB.qlt (fun hy => (hA_wB.fr q (hbsub q hy)).2 rfl)).trans hA_wB.box
              have cqC : wC.cell? ⟨q, 0, none⟩ = some (.slice (some ⟨gb, 0, none⟩) 5 c) := by rw [cell_of_row wC _ 0 _ _ (0, 0) eqC]; rfl
              refine HeL.st hK (cqC) (fun hH2 => ?_)
              clear hK K hHeld
              have hHeld := hH2; clear hH2
              refine HeL.tk 13 ?_
              refine HeL.rd [14] ?_
              refine HeL.cn (fun K hK => ?_) AllReadyH.nil
              go_simp
              have hql : q < wC.heap.size := (Array.getElem?_eq_some_iff.1 eqC).1
              have cqF : (wC.setCell ⟨gb, o, none⟩ (.slice aC nl cC)).cell? ⟨q, 0, none⟩ = some (.slice (some ⟨gb, 0, none⟩) 5 c) := by
                rw [cell_of_row _ _ 0 _ _ (0, 0) (((Keep.set wC gb o (.slice aC nl cC) [gb] (by simp)).block q hql (by simp; omega)).trans eqC)]; rfl
              refine HeL.st hK (cqF) (fun hH2 => ?_)
              clear hK K hHeld
              have hHeld := hH2; clear hH2
              refine wpAnyH_done (by kernel_rfl) ?_ _
              have HEN : Hid (EndH k w g q (wC.setCell ⟨gb, o, none⟩ (.slice aC nl cC))) := hd (hA_wB.put HON.out HQ.out HLO.out hout2 hbsub hvs hkC (fun y hy => (hvl y hy).1) (by have := HTJ.out; omega) (by have := HL3.out; simp; omega))
              obtain ⟨X, hX⟩ : ∃ X, wC.setCell ⟨gb, o, none⟩ (.slice aC nl cC) = X := ⟨_, rfl⟩
              rw [hX] at HEN ⊢
              clear hX hHeld cqF hql eqC cqC fr_wC cel_wC hout2 hkC hvs hvl hv2 hv3 hA_wB hA_wA hA_w0 cel_w0 cel_wA cel_wB hbB ebB hown hout hbsub hI HA
              obtain ⟨va, vn, vc, Lz, bsz, hrz, h5z, htz, hfz, hbz, hez, hIz⟩ := HEN.out
              have cqz : X.cell? ⟨q, 0, none⟩ = some (.slice va vn vc) := by rw [cell_of_row X _ 0 _ _ (0, 0) hbz]; rfl
              have crz : X.cell? ⟨w.heap.size, 0, none⟩ = some (.slice none 0 0) := by rw [cell_of_row X _ 0 _ _ (0, 0) hez]; rfl
              have frz := frozen_of_row X _ 0 _ _ hez
              obtain ⟨hD1, hD2⟩ := EndH.done HON.out hrz h5z htz hfz hez hIz
              have HD1 := hd hD1
              have HD2 := hd hD2
              clear hD1 hD2 hrz hbz hez hIz htz hfz
              go_wp2
              have r1 := HD2.out
              refine bodyPost_ret (v := .agg #[.slice va vn vc]) (by simp [results, Try.results28, go_sem, r1]) rfl ?_
              exact HD1.out
            refine HeL.cn (fun K hK => ?_) ?_
            · go_simp
              obtain ⟨wB, hwB⟩ : ∃ X, wA.alloc (.cells #[.int .i64 x1] 3) = X := ⟨_, rfl⟩
              have hbB : Below wA.heap.size wA wB := by rw [← hwB]; exact (Below.refl _ _).alloc (Nat.le_refl _) _
              have ebB : wB.heap[wA.heap.size]? = some (.cells #[.int .i64 x1] 3 (0, 0)) := by rw [← hwB]; exact heap_at _ _ _ rfl
              have hA_wB := hA_wA.below HON.out hbB
              have cel_wB : wB.cell? ⟨gb, o, none⟩ = some (.slice pu l.length cu) := (hbB.cell (p := ⟨gb, o, none⟩) hA_wA.lt).trans cel_wA
              have hgW : w.heap.size < wA.heap.size := by have := hA_wA.qlt; have := HQ.out; omega
              obtain ⟨gA, hgA⟩ : ∃ n, wA.heap.size = n := ⟨_, rfl⟩
              rw [hwB]
              rw [hgA] at ebB hgW ⊢
              clear hwB
              refine HeL.st hK (hA_wB.cell) (fun hH2 => ?_)
              clear hK K hHeld
              have hHeld := hH2; clear hH2
              refine HeL.rd [7] ?_
              refine HeL.cn (fun K hK => ?_) AllReadyH.nil
              go_simp
              refine HeL.st hK (hA_wB.cell) (fun hH2 => ?_)
              clear hK K hHeld
              have hHeld := hH2; clear hH2
              refine HeL.rd [12] ?_
              refine HeL.cn (fun K hK => ?_) AllReadyH.nil
              obtain ⟨lx, cs, b, hlx, ⟨u', rfl, hu⟩, hout⟩ := RowC.Row.out (i := o) hA_wB.row (by have := hA_wB.five; have := HO5.out; omega)
              obtain rfl : l = lx := by have h1 := HLO.out; rw [hlx] at h1; simpa using h1.symm
              have hc1 := hout.cell 0 u' rfl
              rw [show o * 1 + 0 = o by omega, cel_wB] at hc1
              obtain rfl : Value.slice pu l.length cu = u' := by simpa using hc1
              have hbsub := hout.sub
              obtain ⟨hown, rfl⟩ := hu
              clear hc1 hlx
              refine step_append_so (c := cI) Try.underlying35 info_IntS rfl (by decide) (fun _ => rfl) rfl _ _ rfl (w.heap.size + 1) (.slice pu l.length cu) l l.length rfl rfl (own_up hown (fun y hy => by have := hA_wB.fr y (hbsub y hy); omega)) gA 0 [x1] 1 1 rfl rfl (fun j b hj => by
                have h0 : j = 0 := by have := (List.getElem?_eq_some_iff.1 hj).1; simp at this; omega
                subst h0
                simp at hj
                subst hj
                rw [cell_of_row wB _ _ _ _ (0, 0) ebB]; rfl) (by have := HL3.out; simp; omega) (by have := hA_wB.qlt; have := HQ.out; omega) ?_
              intro vC wC hv1 hv2 hv3
              obtain ⟨aC, cC, rfl⟩ := own_slice hv1
              have hvs : OIntS wC (.slice aC (l ++ [x1]).length cC) (l ++ [x1]) (blk (.slice aC (l ++ [x1]).length cC)) := ⟨own_zero hv1, rfl⟩
              have hvl := own_lt hv1
              obtain ⟨nl, hnl⟩ : ∃ nl, (l ++ [x1]).length = nl := ⟨_, rfl⟩
              rw [hnl] at hvs hvl ⊢
              clear hv1 hnl
              have hkC : Keep (blk (.slice pu l.length cu)) wB wC := Keep.of_grown hv3
              have hout2 := hout.keep (good_pe gv_IntS) hA_wB.nd hkC
              have cel_wC := hout2.cell 0 _ rfl
              rw [show o * 1 + 0 = o by omega] at cel_wC
              have fr_wC : wC.frozen? ⟨gb, o, none⟩ = false := hout2.frozen o
              have eqC : wC.heap[q]? = _ := (hkC.block q hA_wB.qlt (fun hy => (hA_wB.fr q (hbsub q hy)).2 rfl)).trans hA_wB.box
              have cqC : wC.cell? ⟨q, 0, none⟩ = some (.slice (some ⟨gb, 0, none⟩) 5 c) := by rw [cell_of_row wC _ 0 _ _ (0, 0) eqC]; rfl
              refine HeL.st hK (cqC) (fun hH2 => ?_)
              clear hK K hHeld
              have hHeld := hH2; clear hH2
              refine HeL.tk 13 ?_
              refine HeL.rd [14] ?_
              refine HeL.cn (fun K hK => ?_) AllReadyH.nil
              go_simp
              have hql : q < wC.heap.size := (Array.getElem?_eq_some_iff.1 eqC).1
              have cqF : (wC.setCell ⟨gb, o, none⟩ (.slice aC nl cC)).cell? ⟨q, 0, none⟩ = some (.slice (some ⟨gb, 0, none⟩) 5 c) := by
                rw [cell_of_row _ _ 0 _ _ (0, 0) (((Keep.set wC gb o (.slice aC nl cC) [gb] (by simp)).block q hql (by simp; omega)).trans eqC)]; rfl
              refine HeL.st hK (cqF) (fun hH2 => ?_)
              clear hK K hHeld
              have hHeld := hH2; clear hH2
              refine wpAnyH_done (by kernel_rfl) ?_ _
              have HEN : Hid (EndH k w g q (wC.setCell ⟨gb, o, none⟩ (.slice aC nl cC))) := hd (hA_wB.put HON.out HQ.out HLO.out hout2 hbsub hvs hkC (fun y hy => (hvl y hy).1) (by have := HTJ.out; omega) (by have := HL3.out; simp; omega))
              obtain ⟨X, hX⟩ : ∃ X, wC.setCell ⟨gb, o, none⟩ (.slice aC nl cC) = X := ⟨_, rfl⟩
              rw [hX] at HEN ⊢
              clear hX hHeld cqF hql eqC cqC fr_wC cel_wC hout2 hkC hvs hvl hv2 hv3 hA_wB hA_wA hA_w0 cel_w0 cel_wA cel_wB hbB ebB hown hout hbsub hI HA
              obtain ⟨va, vn, vc, Lz, bsz, hrz, h5z, htz, hfz, hbz, hez, hIz⟩ := HEN.out
              have cqz : X.cell? ⟨q, 0, none⟩ = some (.slice va vn vc) := by rw [cell_of_row X _ 0 _ _ (0, 0) hbz]; rfl
              have crz : X.cell? ⟨w.heap.size, 0, none⟩ = some (.slice none 0 0) := by rw [cell_of_row X _ 0 _ _ (0, 0) hez]; rfl
              have frz := frozen_of_row X _ 0 _ _ hez
              obtain ⟨hD1, hD2⟩ := EndH.done HON.out hrz h5z htz hfz hez hIz
              have HD1 := hd hD1
              have HD2 := hd hD2
              clear hD1 hD2 hrz hbz hez hIz htz hfz
              go_wp2
              have r1 := HD2.out
              refine bodyPost_ret (v := .agg #[.slice va vn vc]) (by simp [results, Try.results28, go_sem, r1]) rfl ?_
              exact HD1.out
            exact AllReadyH.nil
          exact AllReadyH.nil
        · have cq := HA.out.cell
          have fq := HA.out.frozen
          obtain ⟨bs4, hr4, hm4, hc5⟩ := take4 HA.out.five HA.out.row
          have HR4 := hd hr4
          clear hr4
          have hi2 : (4 : Int) ≤ (c : Int) := by omega
          have HEN : Hid (EndH k w g q (w4.setCell ⟨q, 0, none⟩ (.slice (some ⟨gb, 0, none⟩) 4 c))) := hd (by
            have h := HA.out
            have hS := Keep.set w4 q 0 (.slice (some ⟨gb, 0, none⟩) 4 c) [q] (by simp)
            have hql := HQ.out
            refine ⟨_, _, _, L.take 4, bs4, HR4.out.keep (good_pe gv_IntS) hS (fun y hy hyq => by have := h.fr y (hm4 y hy); simp at hyq; omega), by simp; omega, ?_, fun y hy => (h.fr y (hm4 y hy)).1, ?_, (hS.block _ (Array.getElem?_eq_some_iff.1 h.res).1 (by simp; omega)).trans h.res, h.inv.below HON.out (hS.below (by simp; omega) h.inv.size)⟩
            · have h1 := HTJ.out
              obtain ⟨a0, b0, c0, d0, e0, rfl⟩ : ∃ a b c d e, L = [a, b, c, d, e] := by
                match L, h.five with
                | [a, b, c, d, e], _ => exact ⟨a, b, c, d, e, rfl⟩
              simp [tot, sumW] at *
              omega
            · rw [heap_setCell_same w4 q 0 _ _ _ h.box]; rfl)
          clear hm4
          obtain ⟨X, hX⟩ : ∃ X, w4.setCell ⟨q, 0, none⟩ (.slice (some ⟨gb, 0, none⟩) 4 c) = X := ⟨_, rfl⟩
          rw [hX] at HEN
          clear HA HR4
          obtain ⟨va, vn, vc, Lz, bsz, hrz, h5z, htz, hfz, hbz, hez, hIz⟩ := HEN.out
          have cqz : X.cell? ⟨q, 0, none⟩ = some (.slice va vn vc) := by rw [cell_of_row X _ 0 _ _ (0, 0) hbz]; rfl
          have crz : X.cell? ⟨w.heap.size, 0, none⟩ = some (.slice none 0 0) := by rw [cell_of_row X _ 0 _ _ (0, 0) hez]; rfl
          have frz := frozen_of_row X _ 0 _ _ hez
          obtain ⟨hD1, hD2⟩ := EndH.done HON.out hrz h5z htz hfz hez hIz
          have HD1 := hd hD1
          have HD2 := hd hD2
          clear hD1 hD2 hrz hbz hez hIz htz hfz
          go_wp2
          have r1 := HD2.out
          refine bodyPost_ret (v := .agg #[.slice va vn vc]) (by simp [results, Try.results28, go_sem, r1]) rfl ?_
          exact HD1.out
        · go_wp2_with fail
          obtain ⟨lx, cs, b, hlx, ⟨u, rfl, hu⟩, hout⟩ := RowC.Row.out (i := o) HA.out.row (by have := HA.out.five; omega)
          obtain rfl : l = lx := by have h1 := HLO.out; rw [hlx] at h1; simpa using h1.symm
          obtain ⟨pu, cu, rfl⟩ := gv_IntS.slice hu
          have cel := hout.cell 0 _ rfl
          rw [show o * 1 + 0 = o by omega] at cel
          have hgbg : gb ≠ g := fun e => by have := HA.out.fr gb HA.out.mem; have := HGL.out; omega
          have hgbq : gb ≠ q := (HA.out.fr gb HA.out.mem).2
          clear hlx hu hout
          have HO5 : Hid (o < 5) := hd (by omega)
          refine wp_region_held_drew (S := (fun X => X.cell? ⟨q, 0, none⟩ = some (.slice (some ⟨gb, 0, none⟩) 5 c))) (by kernel_rfl) ?_ (fun hHeld => ?_)
          · exact HCW.out
          obtain ⟨w0, hw0⟩ : ∃ X, w4.drew = X := ⟨_, rfl⟩
          have hA_w0 : At k w g q gb c L bs w0 := by rw [← hw0]; exact HA.out.below HON.out (Below.refl _ _).drew
          have cel_w0 : w0.cell? ⟨gb, o, none⟩ = some (.slice pu l.length cu) := by rw [← hw0]; exact cel
          rw [hw0] at hHeld ⊢
          clear hw0 cel
          refine HeL.tk 0 ?_
          refine HeL.tk 1 ?_
          refine HeL.tk 2 ?_
          refine HeL.tk 3 ?_
          refine HeL.rd [4] ?_
          refine HeL.cn (fun K hK => ?_) AllReadyH.nil
          go_simp
          go_at_call 52
          refine (below_E k w0 g 16 hA_w0.inv.1 (by omega) (by omega)).mono ?_
          rintro e wA ⟨x, hx0, hx1, rfl, hI⟩
          have hA_wA := hA_w0.drawn HGL.out HQ.out hI
          have cel_wA := hI.cell hgbg cel_w0
          try go_wp2_with fail
          refine HeL.st hK (hA_wA.cell) (fun hH2 => ?_)
          clear hK K hHeld
          have hHeld := hH2; clear hH2
          refine HeL.rd [5] ?_
          refine HeL.cn (fun K hK => ?_) AllReadyH.nil
          go_simp
          obtain ⟨wB, hwB⟩ : ∃ X, wA.alloc (.cells #[.int .i64 x] 3) = X := ⟨_, rfl⟩
          have hbB : Below wA.heap.size wA wB := by rw [← hwB]; exact (Below.refl _ _).alloc (Nat.le_refl _) _
          have ebB : wB.heap[wA.heap.size]? = some (.cells #[.int .i64 x] 3 (0, 0)) := by rw [← hwB]; exact heap_at _ _ _ rfl
          have hA_wB := hA_wA.below HON.out hbB
          have cel_wB : wB.cell? ⟨gb, o, none⟩ = some (.slice pu l.length cu) := (hbB.cell (p := ⟨gb, o, none⟩) hA_wA.lt).trans cel_wA
          have hgW : w.heap.size < wA.heap.size := by have := hA_wA.qlt; have := HQ.out; omega
          obtain ⟨gA, hgA⟩ : ∃ n, wA.heap.size = n := ⟨_, rfl⟩
          rw [hwB]
          rw [hgA] at ebB hgW ⊢
          clear hwB
          refine HeL.st hK (hA_wB.cell) (fun hH2 => ?_)
          clear hK K hHeld
          have hHeld := hH2; clear hH2
          refine HeL.tk 6 ?_
          refine HeL.rd [7] ?_
          refine HeL.cn (fun K hK => ?_) AllReadyH.nil
          obtain ⟨lx, cs, b, hlx, ⟨u', rfl, hu⟩, hout⟩ := RowC.Row.out (i := o) hA_wB.row (by have := hA_wB.five; have := HO5.out; omega)
          obtain rfl : l = lx := by have h1 := HLO.out; rw [hlx] at h1; simpa using h1.symm
          have hc1 := hout.cell 0 u' rfl
          rw [show o * 1 + 0 = o by omega, cel_wB] at hc1
          obtain rfl : Value.slice pu l.length cu = u' := by simpa using hc1
          have hbsub := hout.sub
          obtain ⟨hown, rfl⟩ := hu
          clear hc1 hlx
          have eqB := hA_wB.box
          have fr_wB : wB.frozen? ⟨gb, o, none⟩ = false := hout.frozen o
          go_simp
          have hql : q < wB.heap.size := (Array.getElem?_eq_some_iff.1 eqB).1
          have cqF : (wB.setCell ⟨gb, o, none⟩ (.slice (some ⟨gA, 0, none⟩) 1 1)).cell? ⟨q, 0, none⟩ = some (.slice (some ⟨gb, 0, none⟩) 5 c) := by
            rw [cell_of_row _ _ 0 _ _ (0, 0) (((Keep.set wB gb o (.slice (some ⟨gA, 0, none⟩) 1 1) [gb] (by simp)).block q hql (by simp; omega)).trans eqB)]; rfl
          refine HeL.st hK (cqF) (fun hH2 => ?_)
          clear hK K hHeld
          have hHeld := hH2; clear hH2
          refine wpAnyH_done (by kernel_rfl) ?_ _
          have HEN : Hid (EndH k w g q (wB.setCell ⟨gb, o, none⟩ (.slice (some ⟨gA, 0, none⟩) 1 1))) := hd (hA_wB.put (x := [x]) HON.out HQ.out HLO.out hout hbsub ⟨⟨rfl, .inr ⟨gA, 1, _, rfl, Nat.zero_le _, ebB, Nat.le_refl _, by unfold maxLen; omega, rfl, rfl⟩⟩, rfl⟩ (Keep.refl _ _) (fun y hy => by rw [blk_some] at hy; simp at hy; omega) (by have := HTJ.out; omega) (by simp))
          obtain ⟨X, hX⟩ : ∃ X, wB.setCell ⟨gb, o, none⟩ (.slice (some ⟨gA, 0, none⟩) 1 1) = X := ⟨_, rfl⟩
          rw [hX] at HEN ⊢
          clear hX hHeld cqF hql eqB fr_wB hA_wB hA_wA hA_w0 cel_w0 cel_wA cel_wB hbB ebB hown hout hbsub hI HA
          obtain ⟨va, vn, vc, Lz, bsz, hrz, h5z, htz, hfz, hbz, hez, hIz⟩ := HEN.out
          have cqz : X.cell? ⟨q, 0, none⟩ = some (.slice va vn vc) := by rw [cell_of_row X _ 0 _ _ (0, 0) hbz]; rfl
          have crz : X.cell? ⟨w.heap.size, 0, none⟩ = some (.slice none 0 0) := by rw [cell_of_row X _ 0 _ _ (0, 0) hez]; rfl
          have frz := frozen_of_row X _ 0 _ _ hez
          obtain ⟨hD1, hD2⟩ := EndH.done HON.out hrz h5z htz hfz hez hIz
          have HD1 := hd hD1
          have HD2 := hd hD2
          clear hD1 hD2 hrz hbz hez hIz htz hfz
          go_wp2
          have r1 := HD2.out
          refine bodyPost_ret (v := .agg #[.slice va vn vc]) (by simp [results, Try.results28, go_sem, r1]) rfl ?_
          exact HD1.out
    · have hd0 : decide ((0 : Int) < ((j + 1 : Nat) : Int)) = true := decide_eq_true (by omega)
      have C2 := hd (once_E k wr g 3 HA.out.inv.1 (by omega))
      go_wp2_with (go_at_call 53; fail)
      refine C2.out.mono ?_
      rintro e w2 ⟨p, rfl, hI2⟩
      have HA2 := hd (HA.out.drawn HGL.out HQ.out hI2)
      clear C2 hI2 HA
      have HA := HA2
      clear HA2
      have HJ2 := HJ.out
      have HCW := hd HA.out.cell
      cases p with
      | true =>
        go_wp2_with fail
        refine wp_region_held_drew (S := (fun X => X.cell? ⟨q, 0, none⟩ = some (.slice (some ⟨gb, 0, none⟩) 5 c))) (by kernel_rfl) ?_ (fun hHeld => ?_)
        · exact HCW.out
        obtain ⟨w0, hw0⟩ : ∃ X, w2.drew = X := ⟨_, rfl⟩
        have hA0 : At k w g q gb c L bs w0 := by rw [← hw0]; exact HA.out.below HON.out (Below.refl _ _).drew
        rw [hw0] at hHeld ⊢
        clear hw0
        refine HeL.tk 0 ?_
        refine HeL.tk 1 ?_
        refine HeL.rd [2] ?_
        refine HeL.cn (fun K hK => ?_) AllReadyH.nil
        go_simp
        go_at_call 52
        refine (below_E k w0 g 16 hA0.inv.1 (by omega) (by omega)).mono ?_
        rintro e wA ⟨x, hx0, hx1, rfl, hI⟩
        have hA1 := hA0.drawn HGL.out HQ.out hI
        try go_wp2_with fail
        refine HeL.st hK (hA1.cell) (fun hH2 => ?_)
        clear hK K hHeld
        have hHeld := hH2; clear hH2
        refine HeL.rd [3] ?_
        refine HeL.cn (fun K hK => ?_) AllReadyH.nil
        go_simp
        go_at_call 51
        refine (l15Give_any gb c L bs x wA hA1.five (tot_mem (by have := HT.out; omega)) hA1.row hA1.nd).mono ?_
        rintro e wB ⟨bs', rfl, hr2, hn2, hf2, hk2⟩
        have hgq : gb ≠ q := (hA1.fr gb hA1.mem).2
        have cB : wB.cell? ⟨q, 0, none⟩ = some (.slice (some ⟨gb, 0, none⟩) 5 c) := by rw [cell_of_row wB _ 0 _ _ (0, 0) ((hk2.block q hA1.qlt (by simp; omega)).trans hA1.box)]; rfl
        have fB : wB.frozen? ⟨q, 0, none⟩ = false := frozen_of_row wB _ 0 _ _ ((hk2.block q hA1.qlt (by simp; omega)).trans hA1.box)
        try go_wp2_with fail
        refine HeL.st hK (cB) (fun hH2 => ?_)
        clear hK K hHeld
        have hHeld := hH2; clear hH2
        refine HeL.tk 4 ?_
        refine HeL.tk 5 ?_
        refine HeL.tk 6 ?_
        refine HeL.rd [7] ?_
        refine HeL.cn (fun K hK => ?_) AllReadyH.nil
        go_simp
        have hA2 := hA1.next HON.out HQ.out (by rw [giveM_len]; exact hA1.five) hr2 hn2 hf2 hk2
        refine HeL.st hK (hA2.cell) (fun hH2 => ?_)
        clear hK K hHeld
        have hHeld := hH2; clear hH2
        refine wpAnyH_done (by kernel_rfl) ?_ _
        obtain ⟨wF, hwF⟩ : ∃ X, wB.setCell ⟨q, 0, none⟩ (.slice (some ⟨gb, 0, none⟩) 5 c) = X := ⟨_, rfl⟩
        rw [hwF] at hA2 ⊢
        clear hwF
        have HA2 := hd hA2
        have HT2 : Hid (tot (giveM L x).1 ≤ 1 + 5 * (J - j)) := hd (by have := giveM_tot L x; have := HT.out; omega)
        clear hA2 hA1 hA0 hI hr2 hn2 hf2 hk2 hgq cB fB
        go_wp2_with fail
        go_roundw
        case rel => exact ⟨j, by omega, by go_num, hd ⟨gb, c, _, _, HA2.out, HT2.out⟩⟩
        case measure => simp [intOf] <;> omega
      | false =>
        have cq := HA.out.cell
        have fq := HA.out.frozen
        have C3 := hd (l15Take_any gb c L bs w2 HA.out.five (tot_mem (by have := HT.out; omega)) HA.out.row HA.out.nd)
        go_wp2_with (go_at_call 49; fail)
        refine C3.out.mono ?_
        rintro e wB ⟨bs', rfl, hr2, hn2, hf2, hk2⟩
        have hA1 := HA.out
        have hgq : gb ≠ q := (hA1.fr gb hA1.mem).2
        have cB : wB.cell? ⟨q, 0, none⟩ = some (.slice (some ⟨gb, 0, none⟩) 5 c) := by rw [cell_of_row wB _ 0 _ _ (0, 0) ((hk2.block q hA1.qlt (by simp; omega)).trans hA1.box)]; rfl
        have fB : wB.frozen? ⟨q, 0, none⟩ = false := frozen_of_row wB _ 0 _ _ ((hk2.block q hA1.qlt (by simp; omega)).trans hA1.box)
        have HA2 := hd (hA1.next HON.out HQ.out (by rw [take_len]; exact hA1.five) hr2 hn2 hf2 hk2)
        have HT2 : Hid (tot (takeM L).1 ≤ 1 + 5 * (J - j)) := hd (by have := take_tot L; have := HT.out; have := hA1.five; omega)
        clear C3 hA1 hr2 hn2 hf2 hk2 cq fq HA
        go_wp2_with fail
        obtain ⟨wF, hwF⟩ : ∃ X, wB.setCell ⟨q, 0, none⟩ (.slice (some ⟨gb, 0, none⟩) 5 c) = X := ⟨_, rfl⟩
        rw [hwF] at HA2 ⊢
        clear hwF cB fB
        go_roundw
        case rel => exact ⟨j, by omega, by go_num, hd ⟨gb, c, _, _, HA2.out, HT2.out⟩⟩
        case measure => simp [intOf] <;> omega
/-- How many steps a draw has. -/
theorem size_any (a : Option Addr) (len cap : Nat) (w : World) (hb : len ≤ 1048576) :
    Calls Try.prog 29 #[.slice a len cap, .int .i64 30] w fun e w' => (∃ x : Int, 1 ≤ x ∧ x ≤ 30 ∧ e = .returned (.int .i64 x)) ∧ w = w' := by
  have ht : (len : Int).tdiv 20 = ((len / 20 : Nat) : Int) := by rw [Int.tdiv_eq_ediv_of_nonneg (by omega)]; omega
  obtain ⟨n, hn⟩ : ∃ n, len / 20 = n := ⟨_, rfl⟩
  rw [hn] at ht
  have hn2 : n ≤ 60000 := by omega
  have hw0 : IntKind.i64.wrap (n : Int) = (n : Int) := by rw [IntKind.wrap_i64]; omega
  have hw : IntKind.i64.wrap (2 + (n : Int)) = 2 + (n : Int) := by rw [IntKind.wrap_i64]; omega
  clear hn
  by_cases hc : (30 : Int) < 2 + (n : Int)
  · have hd0 : decide ((30 : Int) < 2 + (n : Int)) = true := decide_eq_true hc
    go_enter Try.func29, Try.ntmps29
    go_wp2
    go_ret
    exact ⟨⟨30, by omega, by omega, rfl⟩, rfl⟩
  · have hd0 : decide ((30 : Int) < 2 + (n : Int)) = false := decide_eq_false hc
    go_enter Try.func29, Try.ntmps29
    go_wp2
    go_ret
    exact ⟨⟨2 + (n : Int), by omega, by omega, rfl⟩, rfl⟩
/-- What DrawBuddyTake answers. -/
def DrawP (w : World) (e : Ending) (w' : World) : Prop := ∃ u L bs, e = .returned (.agg #[u]) ∧ OIntSS w' u L bs ∧ L.length ≤ 5 ∧ tot L ≤ 2000 ∧ Below w.heap.size w w'
set_option maxHeartbeats 1000000 in
theorem draw_any (a : Option Addr) (len cap : Nat) (cs : List UInt8) (w : World) (c : DrawR.Code w a len cs) : Calls Try.prog 10 #[.slice a len cap] w fun e w' => DrawP w e w' := by
  have hln : len ≤ 1048576 := c.2.1
  have HSZ := hd (fun X => size_any a len cap X hln)
  have C0 := hd c
  clear c
  go_enter Try.func10, Try.ntmps10
  obtain ⟨W1, hW1⟩ : ∃ X, w.alloc (.cells #[.slice none 0 0] 26) = X := ⟨_, rfl⟩
  have hb1 : Below w.heap.size w W1 := by rw [← hW1]; exact (Below.refl _ _).alloc (Nat.le_refl _) _
  have e1 : W1.heap[w.heap.size]? = some (.cells #[.slice none 0 0] 26 (0, 0)) := by rw [← hW1]; exact heap_at _ _ _ rfl
  have hs1 : W1.heap.size = w.heap.size + 1 := by rw [← hW1]; simp
  have C1 := hd (new_E a len cap cs W1 (C0.out.below hb1))
  go_wp2_with (go_at_call 27; fail)
  refine C1.out.mono ?_
  rintro e w1 ⟨rfl, O1, hb2⟩
  have HO := hd O1
  obtain ⟨gc, hgc⟩ : ∃ n, W1.heap.size = n := ⟨_, rfl⟩
  rw [hgc] at HO ⊢
  clear C1 O1 C0
  go_wp2_with (first | (go_at_call 29; fail) | (go_at_call 28; fail))
  refine (HSZ.out _).mono ?_
  rintro e w1' ⟨⟨m, hm0, hm1, rfl⟩, rfl⟩
  have C2 := hd (some_any _ w1 gc HO.out m hm0 (by omega))
  go_wp2_with (go_at_call 28; fail)
  refine C2.out.mono ?_
  rintro e X ⟨u, L, bs, rfl, hO, h5, ht, hfr, hI⟩
  have hS := Keep.set X w.heap.size 0 u [w.heap.size] (by simp)
  have hz2 := hb2.size
  have hKI : Keep [gc] w1 X := Keep.of_grown' hI.2
  have eX : X.heap[w.heap.size]? = _ := (hKI.block _ (by omega) (by simp; omega)).trans ((hb2.block _ (by omega)).trans e1)
  have cX : X.cell? ⟨w.heap.size, 0, none⟩ = some (.slice none 0 0) := by rw [cell_of_row X _ 0 _ _ (0, 0) eX]; rfl
  have fX := frozen_of_row X _ 0 _ _ eX
  obtain ⟨xa, xc, rfl⟩ := gv_IntSS.slice hO
  have HE : Hid (DrawP w (.returned (.agg #[.slice xa L.length xc])) (X.setCell ⟨w.heap.size, 0, none⟩ (.slice xa L.length xc))) := hd ⟨_, L, bs, rfl, hO.keep (good_pe gv_IntS) hS (fun y hy hyr => by have := hfr y hy; simp at hyr; omega), h5, ht, by
    refine hb1.trans ((hb2.mono (by omega)).trans ?_)
    exact (hKI.below (n := w.heap.size) (by simp; omega) (by omega)).trans (hS.below (by simp) (by have := hKI.size; omega))⟩
  have HR : Hid ((X.setCell ⟨w.heap.size, 0, none⟩ (.slice xa L.length xc)).cell? ⟨w.heap.size, 0, none⟩ = some (.slice xa L.length xc)) := hd (by rw [cell_of_row _ _ 0 _ _ (0, 0) (heap_setCell_same X _ 0 _ _ _ eX)]; rfl)
  clear hS hO eX hKI hI hb1 hb2 hfr C2 HSZ hW1
  go_wp2
  have r1 := HR.out
  refine bodyPost_ret (v := .agg #[.slice xa L.length xc]) (by simp [results, Try.results10, go_sem, r1]) rfl ?_
  exact HE.out

end Go.Proofs.Ytpgigoddjidfdaa.BuX
