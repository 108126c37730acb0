/- Chapter 15, impl's side: firstsOk, BuddyOk, BuddyFree, BuddyAll, copyBuddy. Condition: none. -/
import Derived.Test.YtpgigoddjidfdaaBuQ
import Derived.Maps.AppendAt
import Derived.Deep.RegionWith
namespace Go.Proofs.Ytpgigoddjidfdaa.BuM
open Go.RowKit Go.Deep Num RowC TyA TyM TyB TyR TyF TyP TyT BuS BuC TyV BuD BuE BuG BuH IpI BuJ BuQ
set_option maxRecDepth 100000
set_option linter.unusedVariables false
set_option linter.unusedSimpArgs false

theorem info_IntS1 : (Try.prog.info? 35).map (fun i => (i.zero, i.size, i.bytes)) = some (some (.slice none 0 0), 1, 24) := by kernel_rfl
theorem so_nil (w : World) : OIntS w (.slice none 0 0) [] [] := ⟨⟨rfl, .inl ⟨rfl, rfl⟩⟩, rfl⟩
theorem clone_I (v : Value) (l : List Int) (b : List Nat) (w : World) (hl : l.length ≤ 1100020) (h : OIntS w v l b) :
    Calls Try.prog 55 #[v] w fun e w' => ∃ v' d, e = .returned v' ∧ OIntS w' v' l d ∧ d.Nodup ∧ (∀ y ∈ d, w.heap.size ≤ y) ∧ Below w.heap.size w w' := by
  rcases so_cases h with ⟨rfl, rfl, rfl⟩ | ⟨g, c, rfl, rfl, hg, _, hc⟩
  · have hnil : (binOp .eql 35 (.slice none 0 0) (.slice none 0 0)).run Try.prog w = .ok (.bool true) w := Lib.run_eql_slice_nil w 35 3 none 0 0 0 0 Try.underlying35
    clear h
    go_enter Try.func55, Try.ntmps55
    go_wp2
    go_ret
    exact ⟨_, [], rfl, so_nil _, by simp, by simp, Below.refl _ _⟩
  · obtain ⟨i0, hi, hz0, hz1, hz2⟩ := info_parts info_int1
    have hown0 : (w.alloc (.cells #[] 3)).ownsRow w.heap.size 3 1 (.slice (some ⟨w.heap.size, 0, none⟩) 0 0) 0 [] := World.ownsRow_lit w #[] 0 (Nat.le_refl _) (by unfold maxLen; omega) rfl
    have hc' : Hid (∀ j u, (l.map cI)[j]? = some u → (w.alloc (.cells #[] 3)).cell? ((⟨g, 0, none⟩ : Addr).add j) = some u) := hd (fun j u hj => by
      rw [List.getElem?_map] at hj
      obtain ⟨x, hx, rfl⟩ := Option.map_eq_some_iff.1 hj
      have ha : (⟨g, 0, none⟩ : Addr).add j = ⟨g, j, none⟩ := by unfold Addr.add; split <;> simp_all
      rw [ha]
      exact (World.cell?_alloc_lt _ _ _ hg).trans (hc j x hx))
    have hb0 : Below w.heap.size w (w.alloc (.cells #[] 3)) := (Below.refl _ _).alloc (Nat.le_refl _) _
    have hnil : (binOp .eql 35 (.slice (some ⟨g, 0, none⟩) l.length c) (.slice none 0 0)).run Try.prog w = .ok (.bool false) w := Lib.run_eql_slice_nil w 35 3 (some ⟨g, 0, none⟩) l.length c 0 0 Try.underlying35
    have HF1 : Hid (∀ u ∈ l.map cI, u.oneCell' = true) := hd (fun u hu => by obtain ⟨x, _, rfl⟩ := List.mem_map.1 hu; rfl)
    clear hc h
    go_enter Try.func55, Try.ntmps55
    go_wp2_with (at_builtin; refine wpList_append_own _ rfl _ _ 35 rfl w.heap.size 3 i0 (.int .i64 0) 1 8 Try.underlying35 hi hz0 hz1 hz2 rfl (by decide) _ 0 [] rfl hown0 ⟨g, 0, none⟩ l.length c (l.map cI) rfl (by simp) hc'.out HF1.out (by unfold maxLen; omega) (by omega) (by simp) ?_)
    intro v1 w1 hown1 hgr1 _
    have hb1 : Below w.heap.size (w.alloc (.cells #[] 3)) w1 := (Below.refl _ _).grown hgr1 (by simp) (fun k hk => by simp [Value.ownBlock] at hk; omega)
    have HO := hd hown1
    clear hown1 hown0 hgr1
    go_wp2
    go_ret
    have h9 := HO.out
    try simp only [List.nil_append, Nat.zero_add] at h9
    exact ⟨_, _, rfl, ⟨own_zero (by simpa using h9), rfl⟩, blk_nodup _, fun y hy => (own_lt h9 y hy).1, hb0.trans hb1⟩
/-- A row under way: from block B on, and nobody else's. -/
def Gr {α : Type} (e k : Nat) (P : World → List Value → α → List Nat → Prop) (B : Nat) (w : World) (v : Value) (l : List α) : Prop := ∃ bs, Row e k P w v l bs ∧ bs.Nodup ∧ ∀ y ∈ bs, B ≤ y
theorem gr_start {α : Type} (e k : Nat) (P : World → List Value → α → List Nat → Prop) (B : Nat) (w : World) : Gr e k P B w (.slice none 0 0) [] := ⟨[], Row.nil _ _ _ _, by simp, by simp⟩
set_option maxHeartbeats 2000000 in
theorem each_any (v : Value) (L : List (List Int)) (bs : List Nat) (w : World) (hLs : L.length ≤ 1048576) (hz : ∀ l ∈ L, l.length ≤ 1100020) (h : OIntSS w v L bs) :
    Calls Try.prog 54 #[v, (.func (.func 55) #[] #[])] w fun e w' => ∃ v' d, e = .returned v' ∧ OIntSS w' v' L d ∧ d.Nodup ∧ (∀ y ∈ d, w.heap.size ≤ y) ∧ Below w.heap.size w w' := by
  have HZ := hd hz
  have HR := hd h
  obtain ⟨a, c, rfl⟩ := h.slice
  clear h hz
  go_enter Try.func54, Try.ntmps54
  go_wp2_with fail
  go_loopw [5, 10] (fun v i wr => ∃ k : Nat, k ≤ L.length ∧ i = .int .i64 k ∧ Hid (Gr 35 1 (PE OIntS) w.heap.size wr v (L.take k)) ∧ Below w.heap.size w wr) (fun _ i _ => L.length - (intOf i).toNat)
  case atStart => exact ⟨0, Nat.zero_le _, rfl, hd (by simpa using gr_start _ _ _ _ _), Below.refl _ _⟩
  case round =>
    obtain ⟨k, hk, rfl, hgr, hbel⟩ := hrel
    by_cases hlt : k < L.length
    · obtain ⟨g0, rfl⟩ : ∃ g0, a = some ⟨g0, 0, none⟩ := by
        rcases HR.out.cases with ⟨hh, h0, _⟩ | ⟨g0, cap, hh, _⟩
        · rw [h0] at hlt; simp at hlt
        · simp at hh; exact ⟨g0, hh.1⟩
      obtain ⟨l, cs, b, hl, ⟨v1, rfl, hv1⟩, ho⟩ := (HR.out.below (good_pe gv_IntS) hbel).out hlt
      have c0 := ho.cell 0 v1 rfl
      rw [Nat.mul_one, Nat.add_zero] at c0
      have HM := hd (clone_I v1 l b wr (HZ.out l (List.mem_of_getElem? hl)) hv1)
      obtain ⟨a1, c1, rfl⟩ := gv_IntS.slice hv1
      have hk0 : (0 : Int) ≤ k := by omega
      have hk1 : (k : Int) < L.length := by omega
      have HT : Hid (L.take (k + 1) = L.take k ++ [l]) := hd (by
        obtain ⟨h1, h2⟩ := List.getElem?_eq_some_iff.1 hl
        rw [List.take_succ_eq_append_getElem h1, h2])
      have htl : (L.take k).length ≤ 2999999 := by simp; omega
      clear ho hv1 hl
      obtain ⟨bs5, hr5, hn5, hg5⟩ := hgr.out
      have hlr5 := hr5.lt (good_pe gv_IntS)
      obtain ⟨a5, c5, hv5⟩ := hr5.slice
      rw [show (L.take k).length = k by simp; omega] at hv5
      subst hv5
      go_wp2_with (go_at_call 55; fail)
      refine HM.out.mono ?_
      rintro e w1 ⟨u, d, rfl, hu, hdn, hds, hb1⟩
      obtain ⟨ua, uc, rfl⟩ := gv_IntS.slice hu
      have hbW : Below wr.heap.size wr (w1.alloc (.cells #[.slice ua l.length uc] 35)) := hb1.alloc hb1.size _
      have hal : Below w1.heap.size w1 (w1.alloc (.cells #[.slice ua l.length uc] 35)) := (Below.refl _ _).alloc (Nat.le_refl _) _
      have hs1 := hb1.size
      have hsb := hbel.size
      have hdlt := gv_IntS.lt hu
      go_wp2_with (at_builtin; refine wpList_append_elem (P := PE OIntS) (good_pe gv_IntS) Try.underlying24 info_IntS1 rfl (by decide) (by decide) rfl _ _ rfl (.slice a5 k c5) (L.take k) bs5 rfl (hr5.keep (good_pe gv_IntS) (Keep.of_below [] hbW) (by simp)) hn5 w1.heap.size 0 1 [.slice ua l.length uc] l d rfl (cellv w1 _) rfl (by simp [Value.oneCell']) ⟨_, rfl, gv_IntS.below hu hal⟩ hdn (fun q hq hqb => by have := hds q hq; have := hlr5 q hqb; omega) htl ?_)
      intro v2 w2 bs2 hr2 hn2 hs2 hk2 hv2
      have hb2 : Below w.heap.size w w2 := (hbel.trans (hbW.mono hbel.size)).trans (hk2.below (fun y hy => hg5 y (by obtain ⟨_, _, _, _, e9, _⟩ := hr5; rw [e9]; exact List.mem_append_left _ hy)) (by simp; omega))
      have HG : Hid (Gr 35 1 (PE OIntS) w.heap.size w2 v2 (L.take (k + 1))) := hd ⟨bs2, by rw [HT.out]; exact hr2, hn2, fun y hy => by
        rcases hs2 y hy with h1 | h1 | h1
        · exact hg5 y h1
        · have := hds y h1; omega
        · have h1' : w1.heap.size + 1 ≤ y := by simpa using h1
          omega⟩
      clear hr2 hn2 hs2 hk2 hv2 hr5 hgr
      go_wp2_with fail
      go_roundw
      case rel => exact ⟨k + 1, by omega, by go_num, HG, hb2⟩
      case measure => simp [intOf]; omega
    · obtain rfl : k = L.length := by omega
      obtain ⟨bs5, hr5, hn5, hg5⟩ := hgr.out
      rw [List.take_length] at hr5
      have HX := hd hr5
      clear hr5
      go_wp2
      go_ret
      exact ⟨_, bs5, rfl, HX.out, hn5, hg5, hbel⟩

theorem copy_any (pv : Option Addr) (c : Nat) (L : List (List Int)) (bs : List Nat) (w : World) (hLs : L.length ≤ 1048576) (hz : ∀ l ∈ L, l.length ≤ 1100020) (h : OIntSS w (.slice pv L.length c) L bs) :
    Calls Try.prog 30 #[.agg #[.slice pv L.length c]] w fun e w' => ∃ u d, e = .returned (.agg #[u]) ∧ OIntSS w' u L d ∧ d.Nodup ∧ (∀ y ∈ d, w.heap.size ≤ y) ∧ Below w.heap.size w w' := by
  obtain ⟨W2, hW2⟩ : ∃ W2, (w.alloc (.cells #[.slice pv L.length c] 26)).alloc (.cells #[.slice none 0 0] 26) = W2 := ⟨_, rfl⟩
  have hb2 : Below w.heap.size w W2 := by rw [← hW2]; exact ((Below.refl _ _).alloc (Nat.le_refl _) _).alloc (by simp) _
  have e0 : W2.heap[w.heap.size]? = some (.cells #[.slice pv L.length c] 26 (0, 0)) := by rw [← hW2]; exact heap_up (heap_at _ _ _ rfl) _
  have e1 : W2.heap[w.heap.size + 1]? = some (.cells #[.slice none 0 0] 26 (0, 0)) := by rw [← hW2]; exact heap_at _ _ _ (by simp)
  have c0 : W2.cell? ⟨w.heap.size, 0, none⟩ = some (.slice pv L.length c) := by rw [cell_of_row W2 _ 0 _ _ (0, 0) e0]; rfl
  have hl1 := (Array.getElem?_eq_some_iff.1 e1).1
  have H := hd (each_any _ L bs W2 hLs hz (gv_IntSS.below h hb2))
  have HE1 := hd e1
  clear h e0 e1
  go_enter Try.func30, Try.ntmps30
  go_wp2_with fail
  try rw [hW2]
  go_wp2_with (go_at_call 54; fail)
  refine H.out.mono ?_
  rintro e w1 ⟨u, d, rfl, hr, hn, hs, hb⟩
  have eR := (hb.block (w.heap.size + 1) hl1).trans HE1.out
  have cR : w1.cell? ⟨w.heap.size + 1, 0, none⟩ = some (.slice none 0 0) := by rw [cell_of_row w1 _ 0 _ _ (0, 0) eR]; rfl
  have fR := frozen_of_row w1 _ 0 _ _ eR
  obtain ⟨ua, uc, rfl⟩ := gv_IntSS.slice hr
  have HX : Hid (OIntSS (w1.setCell ⟨w.heap.size + 1, 0, none⟩ (.slice ua L.length uc)) (.slice ua L.length uc) L d) := hd (hr.keep (good_pe gv_IntS) (Keep.set _ _ _ _ [w.heap.size + 1] (by simp)) (fun y hy hyr => by have := hs y hy; have := hb2.size; simp at hyr; omega))
  have HR1 := hd (show (w1.setCell ⟨w.heap.size + 1, 0, none⟩ (.slice ua L.length uc)).cell? ⟨w.heap.size + 1, 0, none⟩ = some (.slice ua L.length uc) from by rw [cell_of_row _ _ 0 _ _ (0, 0) (heap_setCell_same w1 _ 0 _ _ _ eR)]; rfl)
  have hb3 := hb2.size
  clear hr eR
  go_wp2
  have r1 := HR1.out
  refine bodyPost_ret (v := .agg #[.slice ua L.length uc]) (by simp [results, Try.results30, go_sem, r1]) rfl ?_
  exact ⟨_, d, rfl, HX.out, hn, fun y hy => Nat.le_trans hb3 (hs y hy), (hb2.trans (hb.mono hb3)).setCell (by simp) _⟩
theorem firsts_any (v : Value) (l : List Int) (b : List Nat) (o : Nat) (w : World) (hs : l.length ≤ 1100020) (ho : o ≤ 4) (h : OIntS w v l b) :
    Calls Try.prog 45 #[v, .int .i64 o] w fun e w' => e = .returned (.bool (firstsB o l)) ∧ Below w.heap.size w w' := by
  obtain ⟨a, c, rfl⟩ := gv_IntS.slice h
  obtain ⟨W, hW⟩ : ∃ W, (w.alloc (.cells #[.slice a l.length c] 35)).alloc (.cells #[.int .i64 o] 3) = W := ⟨_, rfl⟩
  have hb0 : Below w.heap.size w W := by rw [← hW]; exact ((Below.refl _ w).alloc (Nat.le_refl _) _).alloc (by simp) _
  have e0 : W.heap[w.heap.size]? = some (.cells #[.slice a l.length c] 35 (0, 0)) := by rw [← hW]; exact heap_up (heap_at _ _ _ rfl) _
  have e1 : W.heap[w.heap.size + 1]? = some (.cells #[.int .i64 o] 3 (0, 0)) := by rw [← hW]; exact heap_at _ _ _ (by simp)
  have hl0 := (Array.getElem?_eq_some_iff.1 e0).1
  have hl1 := (Array.getElem?_eq_some_iff.1 e1).1
  have c0 : W.cell? ⟨w.heap.size, 0, none⟩ = some (.slice a l.length c) := by rw [cell_of_row W _ 0 _ _ (0, 0) e0]; rfl
  have c1 : W.cell? ⟨w.heap.size + 1, 0, none⟩ = some (.int .i64 o) := by rw [cell_of_row W _ 0 _ _ (0, 0) e1]; rfl
  have hW' := gv_IntS.below h hb0
  have HR := hd (rises_any _ l b 0 15 W hs (by omega) (by omega) hW')
  have HA := hd (fun (hr : risesB 15 0 l = true) => allFirsts _ l b (blkB o l) (w.heap.size + 1) w.heap.size W hs hW' (fun X hX i x hx => by
    have hm := ((rises_pw 15 l 0).1 hr).1 x (List.mem_of_getElem? hx)
    exact firstClo _ l b o x (w.heap.size + 1) w.heap.size X hs (gv_IntS.below hW' hX) hm.1 (by omega) ho ((hX.cell (p := ⟨w.heap.size + 1, 0, none⟩) hl1).trans c1) ((hX.cell (p := ⟨w.heap.size, 0, none⟩) hl0).trans c0)))
  unfold firstsB
  obtain ⟨q2, hq2⟩ : ∃ q2, l.all (blkB o l) = q2 := ⟨_, rfl⟩
  rw [hq2] at HA ⊢
  clear h hW' c1 e0 e1 hq2
  cases q : risesB 15 0 l
  · rw [q] at HR
    clear HA
    go_enter Try.func45, Try.ntmps45
    go_wp2_with fail
    try rw [hW]
    go_wp2_with (go_at_call 64; refine HR.out.mono ?_; rintro e w1 ⟨rfl, rfl⟩)
    go_ret
    exact ⟨rfl, hb0⟩
  · have HA2 := hd (HA.out q)
    rw [q] at HR
    clear HA
    go_enter Try.func45, Try.ntmps45
    go_wp2_with fail
    try rw [hW]
    go_wp2_with (first
      | (go_at_call 64; refine HR.out.mono ?_; rintro e w1 ⟨rfl, rfl⟩)
      | (go_at_call 65; refine HA2.out.mono ?_; rintro e w1 ⟨rfl, hb1⟩))
    go_ret
    exact ⟨by simp, hb0.trans (hb1.mono hb0.size)⟩
set_option maxHeartbeats 2000000 in
theorem ok_any (pv : Option Addr) (c : Nat) (L : List (List Int)) (bs : List Nat) (w : World) (hLl : L.length ≤ 1048576) (hz : ∀ l ∈ L, l.length ≤ 1100020) (h : OIntSS w (.slice pv L.length c) L bs) :
    Calls Try.prog 20 #[.agg #[.slice pv L.length c]] w fun e w' => e = .returned (.bool (okB L)) ∧ Below w.heap.size w w' := by
  obtain ⟨r, hr⟩ : ∃ r, okB L = r := ⟨_, rfl⟩
  rw [hr]
  replace hr := hd hr
  obtain ⟨W1, hW1⟩ : ∃ W1, w.alloc (.cells #[.slice pv L.length c] 26) = W1 := ⟨_, rfl⟩
  have hb1 : Below w.heap.size w W1 := by rw [← hW1]; exact (Below.refl _ _).alloc (Nat.le_refl _) _
  have e0 : W1.heap[w.heap.size]? = some (.cells #[.slice pv L.length c] 26 (0, 0)) := by rw [← hW1]; exact heap_at _ _ _ rfl
  have c0 : W1.cell? ⟨w.heap.size, 0, none⟩ = some (.slice pv L.length c) := by rw [cell_of_row W1 _ 0 _ _ (0, 0) e0]; rfl
  have hws : w.heap.size < W1.heap.size := (Array.getElem?_eq_some_iff.1 e0).1
  have HR0 := hd (gv_IntSS.below h hb1)
  have HLL := hd hz
  have HB1 := hd hb1
  have HC0 := hd (fun X (hX : Below W1.heap.size W1 X) => (hX.cell (p := ⟨w.heap.size, 0, none⟩) hws).trans c0)
  clear h e0 hz hb1
  by_cases h5 : L.length = 5
  · have h5i : ((L.length : Int) == 5) = true := by simp; omega
    have h5n : ((L.length : Int) != 5) = false := by simp; omega
    obtain ⟨g, rfl, hgW⟩ : ∃ g, pv = some ⟨g, 0, none⟩ ∧ g < W1.heap.size := by
      rcases HR0.out.cases with ⟨hh, h0, _⟩ | ⟨g, cap, hh, hg, _⟩
      · rw [h0] at h5; simp at h5
      · simp at hh; exact ⟨g, hh.1, hg⟩
    have HL5 := hd h5
    clear h5
    go_enter Try.func20, Try.ntmps20
    go_wp2_with fail
    try rw [hW1]
    go_wp2_with fail
    go_loopw [13] (fun i wr => ∃ k : Nat, k ≤ 5 ∧ i = .int .i64 k ∧ Hid (∀ j, j < k → firstsB j (L.getD j []) = true) ∧ Hid (Below W1.heap.size W1 wr)) (fun i _ => 5 - (intOf i).toNat)
    case atStart => exact ⟨0, by omega, rfl, hd (fun j hj => by omega), hd (Below.refl _ _)⟩
    case round =>
      obtain ⟨k, hk, rfl, hall, hbel⟩ := hrel
      by_cases hlt : k < 5
      · obtain ⟨l, hlo⟩ : ∃ l, L[k]? = some l := ⟨L[k]'(by have := HL5.out; omega), by simp⟩
        obtain ⟨u, bu, hcu, hou, hbu⟩ := Row.elem (gv_IntSS.below HR0.out hbel.out) hlo
        have HF := hd (firsts_any u l bu k wr (HLL.out l (List.mem_of_getElem? hlo)) (by omega) hou)
        obtain ⟨au, cu, rfl⟩ := gv_IntS.slice hou
        have hk0 : (0 : Int) ≤ k := by omega
        have hk1 : (k : Int) < L.length := by have := HL5.out; omega
        have HGD := hd (getD_at hlo)
        clear hou hlo
        cases q : firstsB k l
        · rw [q] at HF
          have HE : Hid (r = false) := hd (by rw [← hr.out]; exact ok_no_first hlt (by rw [HGD.out]; exact q))
          go_wp2_with (go_at_call 45; refine HF.out.mono ?_; rintro e w2 ⟨rfl, hb2⟩)
          go_ret
          exact ⟨by rw [HE.out]; rfl, HB1.out.trans ((btr hb2 hbel.out).mono HB1.out.size)⟩
        · rw [q] at HF
          have HP : Hid (∀ j, j < k + 1 → firstsB j (L.getD j []) = true) := hd (fun j hj => by
            rcases Nat.lt_or_ge j k with h1 | h1
            · exact hall.out j h1
            · obtain rfl : j = k := by omega
              rw [HGD.out]; exact q)
          go_wp2_with (go_at_call 45; refine HF.out.mono ?_; rintro e w2 ⟨rfl, hb2⟩)
          go_roundw
          case rel => exact ⟨k + 1, by omega, by go_num, HP, hd (btr hb2 hbel.out)⟩
          case measure => simp [intOf]; omega
      · obtain rfl : k = 5 := by omega
        have hk1 : ¬ (5 : Int) < (L.length : Int) := by have := HL5.out; omega
        go_wp2_with fail
        go_loop [23] (fun i => ∃ m : Nat, m ≤ 16 ∧ i = .int .i64 m ∧ Hid (∀ f : Nat, f < m → cntN L (f : Int) 5 ≤ 1)) (fun i => 16 - (intOf i).toNat)
        case atStart => exact ⟨0, by omega, rfl, hd (fun f hf => by omega)⟩
        case round =>
          obtain ⟨m, hm, rfl, hcn⟩ := hrel
          by_cases hmt : m < 16
          · have HB := hd (blocksWith_any (some ⟨g, 0, none⟩) c L bs (m : Int) w.heap.size wr HL5.out HLL.out (gv_IntSS.below HR0.out hbel.out) (by omega) (by omega) (HC0.out wr hbel.out))
            have hm0 : (m : Int) < 16 := by omega
            obtain ⟨cn, hcn2⟩ : ∃ cn, cntN L (m : Int) 5 = cn := ⟨_, rfl⟩
            rw [hcn2] at HB
            by_cases h1 : 1 < cn
            · have HE : Hid (r = false) := hd (by rw [← hr.out]; exact ok_no_cnt hmt (by rw [hcn2]; exact h1))
              have h1i : (1 : Int) < (cn : Int) := by omega
              clear hcn2
              go_wp2_with (go_at_call 40; refine HB.out.mono ?_; rintro e w2 ⟨rfl, rfl⟩)
              go_ret
              exact ⟨by rw [HE.out]; rfl, HB1.out.trans (hbel.out.mono HB1.out.size)⟩
            · have HP : Hid (∀ f : Nat, f < m + 1 → cntN L (f : Int) 5 ≤ 1) := hd (fun f hf => by
                rcases Nat.lt_or_ge f m with h3 | h3
                · exact hcn.out f h3
                · obtain rfl : f = m := by omega
                  omega)
              have h1i : ¬ (1 : Int) < (cn : Int) := by omega
              clear hcn2
              go_wp2_with (go_at_call 40; refine HB.out.mono ?_; rintro e w2 ⟨rfl, rfl⟩)
              exact ⟨⟨m + 1, by omega, by go_num, HP⟩, by simp [intOf]; omega⟩
          · obtain rfl : m = 16 := by omega
            have HE : Hid (r = true) := hd (by rw [← hr.out]; exact ok_yes HL5.out hall.out hcn.out)
            go_wp2
            go_ret
            exact ⟨by rw [HE.out]; rfl, HB1.out.trans (hbel.out.mono HB1.out.size)⟩
  · have h5i : ((L.length : Int) == 5) = false := by simp; omega
    have h5n : ((L.length : Int) != 5) = true := by simp; omega
    have HE : Hid (r = false) := hd (by rw [← hr.out]; exact ok_no_len h5)
    go_enter Try.func20, Try.ntmps20
    go_wp2_with fail
    try rw [hW1]
    go_wp2
    go_ret
    exact ⟨by rw [HE.out]; rfl, HB1.out⟩
set_option maxHeartbeats 2000000 in
theorem free_any (pv : Option Addr) (c : Nat) (L : List (List Int)) (bs : List Nat) (w : World) (hLl : L.length ≤ 1048576) (hz : ∀ l ∈ L, l.length ≤ 1100020) (h : OIntSS w (.slice pv L.length c) L bs) :
    Calls Try.prog 13 #[.agg #[.slice pv L.length c]] w fun e w' => e = .returned (.int .i64 (freeB L)) ∧ Below w.heap.size w w' := by
  obtain ⟨r, hr⟩ : ∃ r, freeB L = r := ⟨_, rfl⟩
  rw [hr]
  replace hr := hd hr
  obtain ⟨W1, hW1⟩ : ∃ W1, w.alloc (.cells #[.slice pv L.length c] 26) = W1 := ⟨_, rfl⟩
  have hb1 : Below w.heap.size w W1 := by rw [← hW1]; exact (Below.refl _ _).alloc (Nat.le_refl _) _
  have e0 : W1.heap[w.heap.size]? = some (.cells #[.slice pv L.length c] 26 (0, 0)) := by rw [← hW1]; exact heap_at _ _ _ rfl
  have c0 : W1.cell? ⟨w.heap.size, 0, none⟩ = some (.slice pv L.length c) := by rw [cell_of_row W1 _ 0 _ _ (0, 0) e0]; rfl
  have hws : w.heap.size < W1.heap.size := (Array.getElem?_eq_some_iff.1 e0).1
  have HR0 := hd (gv_IntSS.below h hb1)
  have HLL := hd hz
  have HB1 := hd hb1
  have HC0 := hd (fun X (hX : Below W1.heap.size W1 X) => (hX.cell (p := ⟨w.heap.size, 0, none⟩) hws).trans c0)
  have HOK := hd (ok_any pv c L bs W1 hLl hz HR0.out)
  clear h e0 hz hb1
  cases hok : okB L with
  | false =>
    rw [hok] at HOK
    have HE : Hid (r = 0) := hd (by rw [← hr.out]; unfold freeB; rw [hok]; rfl)
    go_enter Try.func13, Try.ntmps13
    go_wp2_with fail
    try rw [hW1]
    go_wp2_with (go_at_call 20; refine HOK.out.mono ?_; rintro e wk ⟨rfl, hbk⟩)
    go_ret
    exact ⟨TyA.ret_int HE.out.symm, HB1.out.trans (hbk.mono HB1.out.size)⟩
  | true =>
    rw [hok] at HOK
    have h5 := (ok_parts hok).1
    have HCN := hd (ok_parts hok).2.2
    have HFE := hd (free_eq hok)
    have HFR : Hid (r = (frN L 5 : Int)) := hd (by rw [← hr.out]; unfold freeB; rw [hok]; rfl)
    have HL5 := hd h5
    clear hok h5
    go_enter Try.func13, Try.ntmps13
    go_wp2_with fail
    try rw [hW1]
    go_wp2_with (go_at_call 20; refine HOK.out.mono ?_; rintro e wk ⟨rfl, hbk⟩)
    go_loop [3, 8] (fun n i => ∃ (k m : Nat), k ≤ 16 ∧ i = .int .i64 k ∧ n = .int .i64 m ∧ m ≤ k ∧ Hid (m = sumF (fun k => cntN L (k : Int) 5) k)) (fun _ i => 16 - (intOf i).toNat)
    case atStart => exact ⟨0, 0, by omega, rfl, rfl, by omega, hd rfl⟩
    case round =>
      obtain ⟨k, m, hk, rfl, rfl, hmk, hm⟩ := hrel
      by_cases hkt : k < 16
      · have HB := hd (blocksWith_any pv c L bs (k : Int) w.heap.size wk HL5.out HLL.out (gv_IntSS.below HR0.out hbk) (by omega) (by omega) (HC0.out wk hbk))
        have hk0 : (k : Int) < 16 := by omega
        have hc1 := HCN.out k hkt
        have HS : Hid (m + cntN L (k : Int) 5 = sumF (fun k => cntN L (k : Int) 5) (k + 1)) := hd (by show _ = sumF _ k + _; rw [hm.out])
        obtain ⟨cn, hcn2⟩ : ∃ cn, cntN L (k : Int) 5 = cn := ⟨_, rfl⟩
        rw [hcn2] at HB HS hc1
        clear hcn2
        go_wp2_with (go_at_call 40; refine HB.out.mono ?_; rintro e w2 ⟨rfl, rfl⟩)
        exact ⟨⟨k + 1, m + cn, by omega, by go_num, by first | rfl | go_num, by omega, HS⟩, by simp [intOf]; omega⟩
      · obtain rfl : k = 16 := by omega
        have HE : Hid (r = (m : Int)) := hd (by rw [HFR.out, hm.out, ← HFE.out])
        go_wp2
        go_ret
        exact ⟨TyA.ret_int HE.out.symm, HB1.out.trans (hbk.mono HB1.out.size)⟩
set_option maxHeartbeats 4000000 in
theorem all_new (w : World) : Calls Try.prog 16 #[] w fun e w' => ∃ g d, e = .returned (.agg #[.slice (some ⟨g, 0, none⟩) 5 5]) ∧ OIntSS w' (.slice (some ⟨g, 0, none⟩) 5 5) allL d ∧ d.Nodup ∧ (∀ y ∈ d, w.heap.size ≤ y) ∧ Below w.heap.size w w' := by
  go_enter Try.func16, Try.ntmps16
  go_wp2_with fail
  obtain ⟨X, hX⟩ : ∃ X, (((((((w.alloc (.cells #[.slice (some ⟨w.heap.size + 1 + 1 + 1 + 1 + 1 + 1, 0, none⟩) 5 5] 26)).alloc (.cells #[] 3)).alloc (.cells #[] 3)).alloc (.cells #[] 3)).alloc (.cells #[] 3)).alloc (.cells #[.int .i64 0] 3)).alloc (.cells #[.slice (some ⟨w.heap.size + 1, 0, none⟩) 0 0, .slice (some ⟨w.heap.size + 1 + 1, 0, none⟩) 0 0, .slice (some ⟨w.heap.size + 1 + 1 + 1, 0, none⟩) 0 0, .slice (some ⟨w.heap.size + 1 + 1 + 1 + 1, 0, none⟩) 0 0, .slice (some ⟨w.heap.size + 1 + 1 + 1 + 1 + 1, 0, none⟩) 1 1] 35)) = X := ⟨_, rfl⟩
  have hb : Below w.heap.size w X := by
    rw [← hX]
    repeat' first | exact Below.refl _ _ | refine balloc ?_ _
  have x0 : X.heap[w.heap.size]? = some (.cells #[.slice (some ⟨w.heap.size + 1 + 1 + 1 + 1 + 1 + 1, 0, none⟩) 5 5] 26 (0, 0)) := by
    rw [← hX]
    exact (heap_up (heap_up (heap_up (heap_up (heap_up (heap_up (heap_at _ _ _ (by simp)) _) _) _) _) _) _)
  have x1 : X.heap[w.heap.size + 1]? = some (.cells #[] 3 (0, 0)) := by
    rw [← hX]
    exact (heap_up (heap_up (heap_up (heap_up (heap_up (heap_at _ _ _ (by simp)) _) _) _) _) _)
  have x2 : X.heap[w.heap.size + 1 + 1]? = some (.cells #[] 3 (0, 0)) := by
    rw [← hX]
    exact (heap_up (heap_up (heap_up (heap_up (heap_at _ _ _ (by simp)) _) _) _) _)
  have x3 : X.heap[w.heap.size + 1 + 1 + 1]? = some (.cells #[] 3 (0, 0)) := by
    rw [← hX]
    exact (heap_up (heap_up (heap_up (heap_at _ _ _ (by simp)) _) _) _)
  have x4 : X.heap[w.heap.size + 1 + 1 + 1 + 1]? = some (.cells #[] 3 (0, 0)) := by
    rw [← hX]
    exact (heap_up (heap_up (heap_at _ _ _ (by simp)) _) _)
  have x5 : X.heap[w.heap.size + 1 + 1 + 1 + 1 + 1]? = some (.cells #[.int .i64 0] 3 (0, 0)) := by
    rw [← hX]
    exact (heap_up (heap_at _ _ _ (by simp)) _)
  have x6 : X.heap[w.heap.size + 1 + 1 + 1 + 1 + 1 + 1]? = some (.cells #[.slice (some ⟨w.heap.size + 1, 0, none⟩) 0 0, .slice (some ⟨w.heap.size + 1 + 1, 0, none⟩) 0 0, .slice (some ⟨w.heap.size + 1 + 1 + 1, 0, none⟩) 0 0, .slice (some ⟨w.heap.size + 1 + 1 + 1 + 1, 0, none⟩) 0 0, .slice (some ⟨w.heap.size + 1 + 1 + 1 + 1 + 1, 0, none⟩) 1 1] 35 (0, 0)) := by
    rw [← hX]
    exact (heap_at _ _ _ (by simp))
  rw [hX]
  clear hX
  have cr : X.cell? ⟨w.heap.size, 0, none⟩ = some (.slice (some ⟨w.heap.size + 1 + 1 + 1 + 1 + 1 + 1, 0, none⟩) 5 5) := by rw [cell_of_row X _ 0 _ _ (0, 0) x0]; rfl
  refine bodyPost_ret (v := .agg #[.slice (some ⟨w.heap.size + 1 + 1 + 1 + 1 + 1 + 1, 0, none⟩) 5 5]) (by simp [results, Try.results16, go_sem, cr]) rfl ?_
  refine ⟨w.heap.size + 1 + 1 + 1 + 1 + 1 + 1, _, rfl, ⟨[.slice (some ⟨w.heap.size + 1, 0, none⟩) 0 0, .slice (some ⟨w.heap.size + 1 + 1, 0, none⟩) 0 0, .slice (some ⟨w.heap.size + 1 + 1 + 1, 0, none⟩) 0 0, .slice (some ⟨w.heap.size + 1 + 1 + 1 + 1, 0, none⟩) 0 0, .slice (some ⟨w.heap.size + 1 + 1 + 1 + 1 + 1, 0, none⟩) 1 1], [[w.heap.size + 1], [w.heap.size + 1 + 1], [w.heap.size + 1 + 1 + 1], [w.heap.size + 1 + 1 + 1 + 1], [w.heap.size + 1 + 1 + 1 + 1 + 1]], ⟨rfl, .inr ⟨w.heap.size + 1 + 1 + 1 + 1 + 1 + 1, 5, _, rfl, Nat.zero_le _, x6, Nat.le_refl _, by unfold maxLen; omega, rfl, rfl⟩⟩, rfl, rfl, ?_⟩, by simp [blk_some] <;> omega, by simp [blk_some] <;> omega, hb⟩
  intro i y c hy hc
  match i, hy, hc with
  | 0, hy, hc => simp [allL] at hy; simp at hc; subst hy hc; exact ⟨_, rfl, so_empty _ _ _ _ x1⟩
  | 1, hy, hc => simp [allL] at hy; simp at hc; subst hy hc; exact ⟨_, rfl, so_empty _ _ _ _ x2⟩
  | 2, hy, hc => simp [allL] at hy; simp at hc; subst hy hc; exact ⟨_, rfl, so_empty _ _ _ _ x3⟩
  | 3, hy, hc => simp [allL] at hy; simp at hc; subst hy hc; exact ⟨_, rfl, so_empty _ _ _ _ x4⟩
  | 4, hy, hc => simp [allL] at hy; simp at hc; subst hy hc; exact ⟨_, rfl, ⟨⟨rfl, .inr ⟨w.heap.size + 1 + 1 + 1 + 1 + 1, 1, _, rfl, Nat.zero_le _, x5, Nat.le_refl _, by unfold maxLen; omega, rfl, rfl⟩⟩, rfl⟩⟩
  | n + 5, hy, hc => simp [allL] at hy

end Go.Proofs.Ytpgigoddjidfdaa.BuM
