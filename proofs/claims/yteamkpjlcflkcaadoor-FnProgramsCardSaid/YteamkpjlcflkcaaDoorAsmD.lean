/- What spec's Asm answers. Condition: none. -/
import Derived.Test.YteamkpjlcflkcaaDoorAsmC
namespace Go.Proofs.YteamkpjlcflkcaaDoor.AsmD
open Go.RowKit Go.Deep Num InsC InsO ProgC InsJ ProgD ReadA ReadB ReadC ReadS AsmM AsmA AsmB AsmC
set_option linter.unusedVariables false
set_option linter.unusedSimpArgs false

/-- What Asm answers. -/
def AsmPost (l : List UInt8) (w : World) (e : Ending) (w' : World) : Prop :=
  ∃ v, e = .returned (.tuple #[v, .int .i64 ((asm l).2 : Int)]) ∧ w'.ownsRow w.heap.size 44 4 v (asm l).1.length (flat (asm l).1)
/-- A row of instructions is no row of texts. -/
theorem own_neS {w : World} {B n g : Nat} {v : Value} {xs : List Value} {cur : Array Value} (h : w.ownsRow B 44 4 v n xs) (hg : w.heap[g]? = some (.cells cur 9 (0, 0))) : some g ≠ v.ownBlock := by
  rcases h.2 with ⟨rfl, _⟩ | ⟨g', cap, cur', rfl, _, hh, _⟩
  · simp [Value.ownBlock]
  · intro h
    simp [Value.ownBlock] at h
    subst h
    rw [hg] at hh
    simp at hh
theorem cell_of_cur {w : World} {g j : Nat} {v : Value} {cur : Array Value} (h : w.heap[g]? = some (.cells cur 9 (0, 0))) (hc : cur[j]? = some v) : w.cell? ⟨g, j, none⟩ = some v := by
  simp [World.cell?, h, hc]
theorem line_none {l : List UInt8} (h : raw l = none) : line l = none := by simp [line, h]
theorem line_bad {l : List UInt8} {q : Q} (h : raw l = some q) (hq : Q.ok q = false) : line l = none := by simp [line, h, hq]
theorem line_good {l : List UInt8} {q : Q} (h : raw l = some q) (hq : Q.ok q = true) : line l = some q := by simp [line, h, hq]
theorem asm_done {l : List UInt8} {qs : List Q} {n i : Nat} (h : asmF (lines l) = (qs, n, i)) : asm l = (qs, n) := by unfold asm; rw [h]

set_option maxHeartbeats 400000 in
theorem asm_nil (v : Value) (s : ByteArray) (w : World) (hl : lines s.data.toList = []) (hs : s.size ≤ 1048576) :
    Calls Tryd.prog 15 #[.string s] w fun e w' => AsmPost s.data.toList w e w' ∧ Below w.heap.size w w' := by
  have HA : Hid (asm s.data.toList = ([], 0)) := hd (by unfold asm; rw [hl]; rfl)
  have hli := fun w => lines_any s w hs
  rw [hl] at hli
  go_enter Tryd.func15, Tryd.ntmps15
  go_wp2_with (go_at_call 37; fail)
  refine (hli _).mono ?_
  rintro e w1 ⟨v, rfl, hov, hb1⟩
  have hown0 : (w.alloc (.cells #[] 44)).ownsRow w.heap.size 44 4 (.slice (some ⟨w.heap.size, 0, none⟩) 0 0) ([] : List Q).length (flat []) := World.ownsRow_lit w #[] 0 (Nat.le_refl _) (by unfold maxLen; omega) rfl
  have hown1 := own_below hown0 hb1
  have hbel1 : Below w.heap.size w w1 := ((Below.refl _ _).alloc (Nat.le_refl _) _).trans (hb1.mono (by simp))
  obtain ⟨a, c, rfl⟩ : ∃ a c, v = .slice a 0 c := by
    rcases hov.2 with ⟨rfl, _⟩ | ⟨g, cap, cur, rfl, _⟩
    · exact ⟨_, _, rfl⟩
    · exact ⟨_, _, rfl⟩
  clear hown0 hov hli hb1
  go_wp2_with fail
  go_loop [4, 6] (fun ov i => ov = .slice (some ⟨w.heap.size, 0, none⟩) 0 0 ∧ i = .int .i64 0) (fun _ _ => 0)
  case atStart => exact ⟨rfl, rfl⟩
  case round =>
    obtain ⟨rfl, rfl⟩ := hrel
    go_wp2
    go_ret2
    exact ⟨⟨_, by rw [HA.out]; rfl, by rw [HA.out]; exact hown1⟩, hbel1⟩

set_option maxRecDepth 100000 in
set_option maxHeartbeats 2000000 in
theorem asm_some (s : ByteArray) (w : World) (hl : 0 < (lines s.data.toList).length) (hs : s.size ≤ 1048576) :
    Calls Tryd.prog 15 #[.string s] w fun e w' => AsmPost s.data.toList w e w' ∧ Below w.heap.size w w' := by
  have hli := fun w => lines_any s w hs
  have hln := lines_len s.data.toList
  have hsm := lines_small s.data.toList
  have hsl : s.data.toList.length = s.size := by simp
  rw [hsl] at hln hsm
  have HD := hd (fun qs n i => @asm_done s.data.toList qs n i)
  have HT := hd (fun k ls n => @asm_of_stop s.data.toList k ls n)
  clear hsl
  go_enter Tryd.func15, Tryd.ntmps15
  go_wp2_with (go_at_call 37; fail)
  refine (hli _).mono ?_
  rintro e w1 ⟨v, rfl, hov, hb1⟩
  generalize lines s.data.toList = ls at *
  have hown0 : (w.alloc (.cells #[] 44)).ownsRow w.heap.size 44 4 (.slice (some ⟨w.heap.size, 0, none⟩) 0 0) ([] : List Q).length (flat []) := World.ownsRow_lit w #[] 0 (Nat.le_refl _) (by unfold maxLen; omega) rfl
  have hown1 := own_below hown0 hb1
  have hbel1 : Below w.heap.size w w1 := ((Below.refl _ _).alloc (Nat.le_refl _) _).trans (hb1.mono (by simp))
  obtain ⟨g, cap, cur, rfl, hgB, hgl, hgb, hgc⟩ := own_strs hov hl
  have hcur : Hid (∀ (j : Nat) (x : List UInt8), ls[j]? = some x → cur[j]? = some (.string ⟨x.toArray⟩)) := hd (fun j x hj => by simpa [World.cell?, hgb] using hgc j x hj)
  clear hown0 hov hli hb1 hgc hgl hgB
  go_wp2_with fail
  go_loopw [4, 6] (fun ov iv wr => ∃ (k : Nat) (qs : List Q), k ≤ ls.length ∧ iv = .int .i64 k ∧ qs.length ≤ 40 ∧ Hid (asmF (ls.take k) = (qs, 0, k)) ∧ wr.ownsRow w.heap.size 44 4 ov qs.length (flat qs) ∧ wr.heap[g]? = some (.cells cur 9 (0, 0)) ∧ Below w.heap.size w wr)
    (fun _ iv _ => ls.length - (intOf iv).toNat)
  case atStart => exact ⟨0, [], Nat.zero_le _, rfl, Nat.zero_le _, hd rfl, hown1, hgb, hbel1⟩
  case round =>
    clear hown1 hgb hbel1
    obtain ⟨k, qs, hk, rfl, hq40, hA, hown, hgb, hbel⟩ := hrel
    obtain ⟨a, c, rfl⟩ : ∃ a c, u4 = .slice a qs.length c := by
      rcases hown.2 with ⟨rfl, h0⟩ | ⟨g', cap', cur', rfl, _⟩
      · exact ⟨_, _, by rw [h0]⟩
      · exact ⟨_, _, rfl⟩
    by_cases hlt : k < ls.length
    · obtain ⟨x, hx⟩ : ∃ x, ls[k]? = some x := ⟨ls[k], by simp [hlt]⟩
      have hts : ls.take (k + 1) = ls.take k ++ [x] := by
        obtain ⟨h1, h2⟩ := List.getElem?_eq_some_iff.1 hx
        rw [List.take_succ_eq_append_getElem h1, h2]
      have hxs : x.length ≤ 1048576 := Nat.le_trans (hsm x (List.mem_of_getElem? hx)) hs
      have cx := cell_of_cur hgb (hcur.out k x hx)
      have hk0 : (0 : Int) ≤ k := by omega
      have hk1 : (k : Int) < ls.length := by omega
      have hk2 : (k : Int) ≤ 1048577 := by omega
      have hbs := hbel.size
      by_cases hxe : x = []
      · subst hxe
        have HA2 : Hid (asmF (ls.take (k + 1)) = (qs, 0, k + 1)) := hd (by rw [hts]; exact asm_empty hA.out)
        clear hts hA
        go_wp2
        go_roundw
        case rel => exact ⟨k + 1, qs, by omega, by go_num, hq40, HA2, hown, hgb, hbel⟩
        case measure => simp [intOf]; omega
      · obtain ⟨t, ht⟩ : ∃ t : ByteArray, t = ⟨x.toArray⟩ := ⟨_, rfl⟩
        have htl : t.data.toList = x := by rw [ht]
        have hte : t.toList.isEmpty = false := by rw [ByteArray.toList_eq, htl]; simpa using hxe
        have htz : t.size ≤ 1048576 := by rw [ht]; show x.toArray.size ≤ _; simpa using hxs
        rw [← ht] at cx
        clear ht hxs
        go_wp2_with (go_at_call 38; fail)
        refine (line_any t _ htz).mono ?_
        rintro e w2 ⟨hpost, hb2⟩
        rw [htl] at hpost
        have hown2 := own_below hown hb2
        have hgb2 := (hb2.block g (block_lt hgb)).trans hgb
        have hbel2 := hbel.trans (hb2.mono hbel.size)
        have hbs2 := hbel2.size
        clear hown hgb hbel hb2 cx
        have hbadw : ∀ (hL : line x = none ∨ 40 ≤ qs.length), asm s.data.toList = ([], k + 1) := fun hL => HT.out (k + 1) _ k rfl (by rw [hts]; exact asm_stop hA.out hxe hL)
        have hE : ∀ X, ((w2.alloc X).alloc (.cells #[] 44)).ownsRow w.heap.size 44 4 (.slice (some ⟨w2.heap.size + 1, 0, none⟩) 0 0) 0 (flat []) := fun X => by
          have := World.ownsRow_lit (base := w.heap.size) (e := 44) (size := 4) (w2.alloc X) #[] 0 (by simp; omega) (by unfold maxLen; omega) rfl
          simpa [flat] using this
        rcases hpost with ⟨q, hraw, rfl⟩ | ⟨hraw, rfl⟩
        · cases hok : Q.ok q
          · have HB := hd (hbadw (.inl (line_bad hraw hok)))
            clear hbadw hts hA hraw
            go_wp2
            go_ret2
            exact ⟨⟨_, by rw [HB.out]; exact ret_pair _ (by simp), by rw [HB.out]; exact hE _⟩, (hbel2.alloc hbs2 _).alloc (by simp; omega) _⟩
          · by_cases h40 : qs.length < 40
            · have HA2 : Hid (asmF (ls.take (k + 1)) = (qs ++ [q], 0, k + 1)) := hd (by rw [hts]; exact asm_line hA.out hxe (line_good hraw hok) h40)
              have h40' : decide ((40 : Int) ≤ qs.length) = false := by simp; omega
              clear hbadw hts hA hraw hE
              obtain ⟨o, a', b, c'⟩ := q
              simp only
              have hown3 := (hown2.alloc (.cells #[.int .i64 o, .int .i64 a', .int .i64 b, .int .i64 c'] 44)).alloc (.cells #[.int .i64 o, .int .i64 a', .int .i64 b, .int .i64 c'] 44)
              have HC : Hid (∀ j u, (Q.mk o a' b c').cells[j]? = some u → ((w2.alloc (.cells #[.int .i64 o, .int .i64 a', .int .i64 b, .int .i64 c'] 44)).alloc (.cells #[.int .i64 o, .int .i64 a', .int .i64 b, .int .i64 c'] 44)).cell? ⟨w2.heap.size + 1, j, none⟩ = some u) := hd (fun j u hj => by have := cells_new (w2.alloc (.cells #[.int .i64 o, .int .i64 a', .int .i64 b, .int .i64 c'] 44)) o a' b c' j u hj; simpa using this)
              go_wp2_with (at_builtin; refine wpList_append_ins rfl _ _ rfl w.heap.size _ qs rfl hown3 (w2.heap.size + 1) ⟨o, a', b, c'⟩ rfl HC.out (by omega) (by simp; omega) ?_)
              intro v2 w3 hown4 hb3 hbk
              have hb4 : Below w.heap.size w w3 := ((hbel2.alloc hbs2 _).alloc (by simp; omega) _).trans hb3
              have hgb3 : w3.heap[g]? = some (.cells cur 9 (0, 0)) := (hbk g (by have := block_lt hgb2; simp; omega) (own_neS hown2 hgb2)).trans (block_alloc (block_alloc hgb2))
              have HO := hd hown4
              clear hb3 hown3 hown4 hbel2 hown2 hbk hgb2
              go_wp2
              go_roundw
              case rel => exact ⟨k + 1, qs ++ [⟨o, a', b, c'⟩], by omega, by go_num, by simp; omega, HA2, by simpa using HO.out, hgb3, hb4⟩
              case measure => simp [intOf]; omega
            · have HB := hd (hbadw (.inr (by omega)))
              have h40' : decide ((40 : Int) ≤ qs.length) = true := by simp; omega
              clear hbadw hts hA hraw
              go_wp2
              go_ret2
              exact ⟨⟨_, by rw [HB.out]; exact ret_pair _ (by simp), by rw [HB.out]; exact hE _⟩, (hbel2.alloc hbs2 _).alloc (by simp; omega) _⟩
        · have HB := hd (hbadw (.inl (line_none hraw)))
          clear hbadw hts hA hraw
          go_wp2
          go_ret2
          exact ⟨⟨_, by rw [HB.out]; exact ret_pair _ (by simp), by rw [HB.out]; exact hE _⟩, (hbel2.alloc hbs2 _).alloc (by simp; omega) _⟩
    · obtain rfl : k = ls.length := by omega
      rw [List.take_length] at hA
      have HA2 := hd (HD.out _ _ _ hA.out)
      clear hA
      go_wp2
      go_ret2
      exact ⟨⟨_, by rw [HA2.out]; rfl, by rw [HA2.out]; exact hown⟩, hbel⟩

theorem spec_any (s : ByteArray) (w : World) (hs : s.size ≤ 1048576) :
    Calls Tryd.prog 15 #[.string s] w fun e w' => AsmPost s.data.toList w e w' ∧ Below w.heap.size w w' := by
  by_cases hl : lines s.data.toList = []
  · exact asm_nil (.bool true) s w hl hs
  · exact asm_some s w (List.length_pos_iff.2 hl) hs

end Go.Proofs.YteamkpjlcflkcaaDoor.AsmD
