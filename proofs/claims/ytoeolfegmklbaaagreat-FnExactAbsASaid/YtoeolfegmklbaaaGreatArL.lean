/- Chapter 12, impl's side: copies: slices.Clone, copyProgs; the words of a ring. Condition: none. -/
import Derived.Test.YtoeolfegmklbaaaGreatArK
import Derived.Test.YtoeolfegmklbaaaGreatArT
import Derived.Test.YtoeolfegmklbaaaGreatArV
import Derived.Maps.AppendAt
import Derived.Deep.RegionWith
namespace Go.Proofs.YtoeolfegmklbaaaGreat.ArL
open Go.RowKit Go.Deep Num RowC TyA TyM TyB TyR TyF TyT TyV Bel IntC InsC ArS ArT ArG ArH ArJ ArK ArU ArV
set_option maxRecDepth 100000
set_option linter.unusedVariables false
set_option linter.unusedSimpArgs false

theorem so_nil (w : World) : OIntS w (.slice none 0 0) [] [] := ⟨⟨rfl, .inl ⟨rfl, rfl⟩⟩, rfl⟩
theorem clone_I (v : Value) (l : List Int) (b : List Nat) (w : World) (hl : l.length ≤ 1048576) (h : OIntS w v l b) :
  Calls Tryz.prog 56 #[v] w fun e w' => ∃ v' d, e = .returned v' ∧ OIntS w' v' l d ∧ d.Nodup ∧ (∀ y ∈ d, w.heap.size ≤ y) ∧ Below w.heap.size w w' := by
 rcases so_cases h with ⟨rfl, rfl, rfl⟩ | ⟨g, c, rfl, rfl, hg, _, hc⟩
 ·have hnil : (binOp .eql 24 (.slice none 0 0) (.slice none 0 0)).run Tryz.prog w = .ok (.bool true) w := Lib.run_eql_slice_nil w 24 3 none 0 0 0 0 Tryz.underlying24
  clear h
  go_enter Tryz.func56, Tryz.ntmps56
  go_wp2
  go_ret
  exact ⟨_, [], rfl, so_nil _, by simp, by simp, Below.refl _ _⟩
 ·obtain ⟨i0, hi, hz0, hz1, hz2⟩ := info_parts info_Int
  have hown0 : (w.alloc (.cells #[] 3)).ownsRow w.heap.size 3 1 (.slice (some ⟨w.heap.size, 0, none⟩) 0 0) 0 [] := World.ownsRow_lit w #[] 0 (Nat.le_refl _) (by unfold maxLen; omega) rfl
  have hc' : Hid (∀ j u, (l.map cI)[j]? = some u → (w.alloc (.cells #[] 3)).cell? ((⟨g, 0, none⟩ : Addr).add j) = some u) := hd (fun j u hj => by
   rw [List.getElem?_map] at hj
   obtain ⟨x, hx, rfl⟩ := Option.map_eq_some_iff.1 hj
   have ha : (⟨g, 0, none⟩ : Addr).add j = ⟨g, j, none⟩ := by unfold Addr.add; split <;> simp_all
   rw [ha]
   exact (World.cell?_alloc_lt _ _ _ hg).trans (hc j x hx))
  have hb0 : Below w.heap.size w (w.alloc (.cells #[] 3)) := (Below.refl _ _).alloc (Nat.le_refl _) _
  have hnil : (binOp .eql 24 (.slice (some ⟨g, 0, none⟩) l.length c) (.slice none 0 0)).run Tryz.prog w = .ok (.bool false) w := Lib.run_eql_slice_nil w 24 3 (some ⟨g, 0, none⟩) l.length c 0 0 Tryz.underlying24
  have HF1 : Hid (∀ u ∈ l.map cI, u.oneCell' = true) := hd (fun u hu => by obtain ⟨x, _, rfl⟩ := List.mem_map.1 hu; rfl)
  clear hc h
  go_enter Tryz.func56, Tryz.ntmps56
  go_wp2_with (at_builtin; refine wpList_append_own _ rfl _ _ 24 rfl w.heap.size 3 i0 (.int .i64 0) 1 8 Tryz.underlying24 hi hz0 hz1 hz2 rfl (by decide) _ 0 [] rfl hown0 ⟨g, 0, none⟩ l.length c (l.map cI) rfl (by simp) hc'.out HF1.out (by unfold maxLen; omega) (by omega) (by simp) ?_)
  intro v1 w1 hown1 hgr1 _
  have hb1 : Below w.heap.size (w.alloc (.cells #[] 3)) w1 := (Below.refl _ _).grown hgr1 (by simp) (fun k hk => by simp [Value.ownBlock] at hk; omega)
  have HO := hd hown1
  clear hown1 hown0 hgr1
  go_wp2
  go_ret
  have h9 := HO.out
  try simp only [List.nil_append, Nat.zero_add] at h9
  exact ⟨_, _, rfl, so_of_own h9 rfl, blk_nodup _, fun y hy => (own_lt h9 y hy).1, hb0.trans hb1⟩
theorem clone_S (v : Value) (l : List MIns) (b : List Nat) (w : World) (hl : l.length ≤ 1048576) (h : OInsS w v l b) :
  Calls Tryz.prog 135 #[v] w fun e w' => ∃ v' d, e = .returned v' ∧ OInsS w' v' l d ∧ d.Nodup ∧ (∀ y ∈ d, w.heap.size ≤ y) ∧ Below w.heap.size w w' := by
 rcases h.cases with ⟨rfl, rfl, rfl⟩ | ⟨g, c, rfl, hg, _⟩
 ·have hnil : (binOp .eql 179 (.slice none 0 0) (.slice none 0 0)).run Tryz.prog w = .ok (.bool true) w := Lib.run_eql_slice_nil w 179 197 none 0 0 0 0 Tryz.underlying179
  clear h
  go_enter Tryz.func135, Tryz.ntmps135
  go_wp2
  go_ret
  exact ⟨_, [], rfl, Row.nil _ _ _ _, by simp, by simp, Below.refl _ _⟩
 ·obtain ⟨xs, hx1, hx2, hx3⟩ := row_cells h
  obtain ⟨i0, hi, hz0, hz1, hz2⟩ := info_parts info_Ins
  have hown0 : (w.alloc (.cells #[] 197)).ownsRow w.heap.size 197 4 (.slice (some ⟨w.heap.size, 0, none⟩) 0 0) 0 [] := World.ownsRow_lit w #[] 0 (Nat.le_refl _) (by unfold maxLen; omega) rfl
  have hc' : Hid (∀ j u, xs[j]? = some u → (w.alloc (.cells #[] 197)).cell? ((⟨g, 0, none⟩ : Addr).add j) = some u) := hd (fun j u hj => by
   have ha : (⟨g, 0, none⟩ : Addr).add j = ⟨g, j, none⟩ := by unfold Addr.add; split <;> simp_all
   rw [ha]
   exact (World.cell?_alloc_lt _ _ _ hg).trans (hx2 j u hj))
  have hb0 : Below w.heap.size w (w.alloc (.cells #[] 197)) := (Below.refl _ _).alloc (Nat.le_refl _) _
  have hnil : (binOp .eql 179 (.slice (some ⟨g, 0, none⟩) l.length c) (.slice none 0 0)).run Tryz.prog w = .ok (.bool false) w := Lib.run_eql_slice_nil w 179 197 (some ⟨g, 0, none⟩) l.length c 0 0 Tryz.underlying179
  have HF1 : Hid (∀ u ∈ xs, u.oneCell' = true) := hd (one_Ins hx1 hx3)
  have HX1 := hd hx1
  have HX3 := hd hx3
  clear hx1 hx2 hx3 h
  go_enter Tryz.func135, Tryz.ntmps135
  go_wp2_with (at_builtin; refine wpList_append_own _ rfl _ _ 179 rfl w.heap.size 197 i0 (.agg #[.int .i64 0, .int .i64 0, .int .i64 0, .int .i64 0]) 4 32 Tryz.underlying179 hi hz0 hz1 hz2 rfl (by decide) _ 0 [] rfl hown0 ⟨g, 0, none⟩ l.length c xs rfl HX1.out hc'.out HF1.out (by unfold maxLen; omega) (by omega) (by simp) ?_)
  intro v1 w1 hown1 hgr1 _
  have hb1 : Below w.heap.size (w.alloc (.cells #[] 197)) w1 := (Below.refl _ _).grown hgr1 (by simp) (fun k hk => by simp [Value.ownBlock] at hk; omega)
  have HO := hd hown1
  clear hown1 hown0 hgr1
  go_wp2
  go_ret
  have h9 := HO.out
  try simp only [List.nil_append, Nat.zero_add] at h9
  exact ⟨v1, blk v1, rfl, row_plain (P := PIns) plain_Ins HX3.out h9, blk_nodup _, fun y hy => (own_lt h9 y hy).1, hb0.trans hb1⟩
/-- A row under way: from block B on, and nobody else's. -/
def Gr {α : Type} (e k : Nat) (P : World → List Value → α → List Nat → Prop) (B : Nat) (w : World) (v : Value) (l : List α) : Prop := ∃ bs, Row e k P w v l bs ∧ bs.Nodup ∧ ∀ y ∈ bs, B ≤ y
theorem gr_start {α : Type} (e k : Nat) (P : World → List Value → α → List Nat → Prop) (B : Nat) (w : World) : Gr e k P B w (.slice none 0 0) [] := ⟨[], Row.nil _ _ _ _, by simp, by simp⟩
set_option maxHeartbeats 2000000 in
theorem each_any (v : Value) (L : List (List MIns)) (bs : List Nat) (w : World) (hz : z_InsSS L ≤ 1048576) (h : OInsSS w v L bs) :
  Calls Tryz.prog 134 #[v, (.func (.func 135) #[] #[])] w fun e w' => ∃ v' d, e = .returned v' ∧ OInsSS w' v' L d ∧ d.Nodup ∧ (∀ y ∈ d, w.heap.size ≤ y) ∧ Below w.heap.size w w' := by
 have HZ := hd hz
 have hLs : L.length ≤ 1048576 := by unfold z_InsSS wS at hz; omega
 have HR := hd h
 obtain ⟨a, c, rfl⟩ := h.slice
 clear h hz
 go_enter Tryz.func134, Tryz.ntmps134
 go_wp2_with fail
 go_loopw [5, 10] (fun v i wr => ∃ k : Nat, k ≤ L.length ∧ i = .int .i64 k ∧ Hid (Gr 179 1 (PE OInsS) w.heap.size wr v (L.take k)) ∧ Below w.heap.size w wr) (fun _ i _ => L.length - (intOf i).toNat)
 case atStart => exact ⟨0, Nat.zero_le _, rfl, hd (by simpa using gr_start _ _ _ _ _), Below.refl _ _⟩
 case round =>
  obtain ⟨k, hk, rfl, hgr, hbel⟩ := hrel
  by_cases hlt : k < L.length
  ·obtain ⟨g0, rfl⟩ : ∃ g0, a = some ⟨g0, 0, none⟩ := by
    rcases HR.out.cases with ⟨hh, h0, _⟩ | ⟨g0, cap, hh, _⟩
    ·rw [h0] at hlt; simp at hlt
    ·simp at hh; exact ⟨g0, hh.1⟩
   obtain ⟨l, cs, b, hl, ⟨v1, rfl, hv1⟩, ho⟩ := (HR.out.below (good_pe gv_InsS) hbel).out hlt
   have c0 := ho.cell 0 v1 rfl
   rw [Nat.mul_one, Nat.add_zero] at c0
   have HM := hd (clone_S v1 l b wr (elem_z HZ.out k l hl) hv1)
   obtain ⟨a1, c1, rfl⟩ := hv1.slice
   have hk0 : (0 : Int) ≤ k := by omega
   have hk1 : (k : Int) < L.length := by omega
   have HT : Hid (L.take (k + 1) = L.take k ++ [l]) := hd (by
    obtain ⟨h1, h2⟩ := List.getElem?_eq_some_iff.1 hl
    rw [List.take_succ_eq_append_getElem h1, h2])
   have htl : (L.take k).length ≤ 2999999 := by simp; omega
   clear ho hv1 hl
   obtain ⟨bs5, hr5, hn5, hg5⟩ := hgr.out
   have hlr5 := hr5.lt (good_pe gv_InsS)
   obtain ⟨a5, c5, hv5⟩ := hr5.slice
   rw [show (L.take k).length = k by simp; omega] at hv5
   subst hv5
   go_wp2_with (go_at_call 135; fail)
   refine HM.out.mono ?_
   rintro e w1 ⟨u, d, rfl, hu, hdn, hds, hb1⟩
   obtain ⟨ua, uc, rfl⟩ := hu.slice
   have hbW : Below wr.heap.size wr (w1.alloc (.cells #[.slice ua l.length uc] 179)) := hb1.alloc hb1.size _
   have hal : Below w1.heap.size w1 (w1.alloc (.cells #[.slice ua l.length uc] 179)) := (Below.refl _ _).alloc (Nat.le_refl _) _
   have hs1 := hb1.size
   have hsb := hbel.size
   have hdlt := gv_InsS.lt hu
   go_wp2_with (at_builtin; refine wpList_append_elem (P := PE OInsS) (good_pe gv_InsS) Tryz.underlying34 info_InsS rfl (by decide) (by decide) rfl _ _ rfl (.slice a5 k c5) (L.take k) bs5 rfl (hr5.keep (good_pe gv_InsS) (Keep.of_below [] hbW) (by simp)) hn5 w1.heap.size 0 1 [.slice ua l.length uc] l d rfl (cell_one w1 _ _ _ rfl) rfl (by simp [Value.oneCell']) ⟨_, rfl, gv_InsS.below hu hal⟩ hdn (fun q hq hqb => by have := hds q hq; have := hlr5 q hqb; omega) htl ?_)
   intro v2 w2 bs2 hr2 hn2 hs2 hk2 hv2
   have hb2 : Below w.heap.size w w2 := (hbel.trans (hbW.mono hbel.size)).trans (hk2.below (fun y hy => hg5 y (by obtain ⟨_, _, _, _, e9, _⟩ := hr5; rw [e9]; exact List.mem_append_left _ hy)) (by simp; omega))
   have HG : Hid (Gr 179 1 (PE OInsS) w.heap.size w2 v2 (L.take (k + 1))) := hd ⟨bs2, by rw [HT.out]; exact hr2, hn2, fun y hy => by
    rcases hs2 y hy with h1 | h1 | h1
    ·exact hg5 y h1
    ·have := hds y h1; omega
    ·have h1' : w1.heap.size + 1 ≤ y := by simpa using h1
     omega⟩
   clear hr2 hn2 hs2 hk2 hv2 hr5 hgr
   go_wp2_with fail
   go_roundw
   case rel => exact ⟨k + 1, by omega, by go_num, HG, hb2⟩
   case measure => simp [intOf]; omega
  ·obtain rfl : k = L.length := by omega
   obtain ⟨bs5, hr5, hn5, hg5⟩ := hgr.out
   rw [List.take_length] at hr5
   have HX := hd hr5
   clear hr5
   go_wp2
   go_ret
   exact ⟨_, bs5, rfl, HX.out, hn5, hg5, hbel⟩
theorem copyProgs_i (v : Value) (L : List (List MIns)) (bs : List Nat) (w : World) (hz : z_InsSS L ≤ 1048576) (h : OInsSS w v L bs) :
  Calls Tryz.prog 41 #[v] w fun e w' => ∃ v' d, e = .returned v' ∧ OInsSS w' v' L d ∧ d.Nodup ∧ (∀ y ∈ d, w.heap.size ≤ y) ∧ Below w.heap.size w w' := by
 have H := hd (each_any v L bs w hz h)
 obtain ⟨a, c, rfl⟩ := h.slice
 clear h
 go_enter Tryz.func41, Tryz.ntmps41
 go_wp2_with (go_at_call 134; fail)
 refine H.out.mono ?_
 rintro e w1 ⟨v1, d, rfl, hr, hn, hs, hb⟩
 have HX := hd hr
 clear hr
 go_wp2
 go_ret
 exact ⟨_, d, rfl, HX.out, hn, hs, hb⟩
end Go.Proofs.YtoeolfegmklbaaaGreat.ArL
