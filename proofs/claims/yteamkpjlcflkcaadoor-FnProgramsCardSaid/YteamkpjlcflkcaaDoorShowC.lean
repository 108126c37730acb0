/- What ShowProg (spec and impl) answers of a list of instructions; each makes new memory at most. Condition: none. -/
import Derived.Test.YteamkpjlcflkcaaDoorShowA
import Derived.Deep.RegionHeld3
namespace Go.Proofs.YteamkpjlcflkcaaDoor.ShowC
open Go.RowKit Go.Deep Num InsC InsO ProgC InsJ ProgD VarC ShowA
set_option linter.unusedVariables false
set_option linter.unusedSimpArgs false

/-- What ShowProg answers, at every list. -/
def ans (l : List Q) : List UInt8 := if progB l = true then showL l else []

set_option maxHeartbeats 1000000 in
theorem impl_yes (g c : Nat) (l : List Q) (w : World) (hok : progB l = true) (hg : g < w.heap.size)
    (hc : ∀ i (q : Q), l[i]? = some q → w.cell? ⟨g, i * 4, none⟩ = some (.int .i64 q.o) ∧ w.cell? ⟨g, i * 4 + 1, none⟩ = some (.int .i64 q.a) ∧ w.cell? ⟨g, i * 4 + 2, none⟩ = some (.int .i64 q.b) ∧ w.cell? ⟨g, i * 4 + 3, none⟩ = some (.int .i64 q.c)) :
    Calls Tryd.prog 9 #[.slice (some ⟨g, 0, none⟩) l.length c] w fun e w' => e = .returned (.string ⟨(showL l).toArray⟩) ∧ Below w.heap.size w w' := by
  obtain ⟨h40, hall⟩ := prog_all hok
  have hL : Lies w (.slice (some ⟨g, 0, none⟩) l.length c) l := .inr ⟨g, c, rfl, hg, hc⟩
  have hpr := ProgD.impl_any _ _ _ hL (by omega)
  rw [hok] at hpr
  clear hok hL
  go_enter Tryd.func9, Tryd.ntmps9
  go_wp2_with (go_at_call 24; fail)
  refine hpr.mono ?_
  rintro e w1 ⟨rfl, hb1⟩
  clear hpr
  go_wp2_with (go_at_call 25; fail)
  refine (VarC.impl_any _ _).mono ?_
  rintro e w2 ⟨rfl, hb2⟩
  replace hb2 := hb1.trans (hb2.mono hb1.size)
  clear hb1
  go_wp2_with fail
  go_loopw [3, 14] (fun s i wr => ∃ (k : Nat) (z : List UInt8), k ≤ l.length ∧ i = .int .i64 k ∧ s = .string ⟨z.toArray⟩ ∧ z.length ≤ 7 + 28 * k ∧ Hid (z = out (l.length : Int) ++ (l.take k).flatMap Q.show) ∧ Below w.heap.size w wr) (fun _ i _ => l.length - (intOf i).toNat)
  case atStart => exact ⟨0, _, Nat.zero_le _, rfl, rfl, by have := out_len (l.length : Int); omega, hd (by simp), hb2⟩
  case round =>
    clear hb2
    obtain ⟨k, z, hk, rfl, rfl, hz, hzz, hbel⟩ := hrel
    by_cases hlt : k < l.length
    · obtain ⟨q, hq⟩ : ∃ q, l[k]? = some q := ⟨l[k], by simp [hlt]⟩
      obtain ⟨d0, d1, d2, d3⟩ := hc k q hq
      have c0 := (hbel.cell (p := ⟨g, k * 4, none⟩) hg).trans d0
      have c1 := (hbel.cell (p := ⟨g, k * 4 + 1, none⟩) hg).trans d1
      have c2 := (hbel.cell (p := ⟨g, k * 4 + 2, none⟩) hg).trans d2
      have c3 := (hbel.cell (p := ⟨g, k * 4 + 3, none⟩) hg).trans d3
      have HS := hd (show_step l k q hq)
      have hqo := hall k q hq
      have hsz := hbel.size
      have hsl := show_len q
      have hsi := fun w => showIns_any q w hqo
      clear d0 d1 d2 d3 hc hqo hall
      generalize Q.show q = y at *
      go_wp2_with (go_at_call 26; refine (hsi _).mono ?_; rintro e w3 ⟨rfl, hb3⟩)
      go_roundw
      case rel => exact ⟨k + 1, z ++ y, by omega, by go_num, by rw [← ByteArray.mk_append_mk], by simp; omega, hd (by rw [HS.out, hzz.out, List.append_assoc]), (hbel.alloc hsz _).trans (hb3.mono (by simp; omega))⟩
      case measure => simp [intOf]; omega
    · obtain rfl : k = l.length := by omega
      go_wp2
      go_ret
      exact ⟨by rw [hzz.out, List.take_length]; rfl, hbel⟩

/-- What is held while the four Vars are made: the element's own cells. -/
theorem keepE {w w1 w2 : World} {g k : Nat} {o a c : Int} (h : w1.cell? ⟨g, k * 4, none⟩ = some (.int .i64 o) ∧ w1.cell? ⟨g, k * 4 + 1, none⟩ = some (.int .i64 a) ∧ w1.cell? ⟨g, k * 4 + 3, none⟩ = some (.int .i64 c) ∧ Below w.heap.size w w1)
    (hb : Below w1.heap.size w1 w2) : w2.cell? ⟨g, k * 4, none⟩ = some (.int .i64 o) ∧ w2.cell? ⟨g, k * 4 + 1, none⟩ = some (.int .i64 a) ∧ w2.cell? ⟨g, k * 4 + 3, none⟩ = some (.int .i64 c) ∧ Below w.heap.size w w2 := by
  obtain ⟨h0, h1, h3, h4⟩ := h
  have hlt : g < w1.heap.size := World.block_lt_of_cell? w1 _ h0
  exact ⟨(hb.cell (p := ⟨g, k * 4, none⟩) hlt).trans h0, (hb.cell (p := ⟨g, k * 4 + 1, none⟩) hlt).trans h1, (hb.cell (p := ⟨g, k * 4 + 3, none⟩) hlt).trans h3, h4.trans (hb.mono h4.size)⟩

set_option maxHeartbeats 400000 in
theorem impl_no (v : Value) (l : List Q) (w : World) (h : Lies w v l) (hl : l.length ≤ 1048576) (hok : progB l = false) :
    Calls Tryd.prog 9 #[v] w fun e w' => e = .returned (.string ⟨#[]⟩) ∧ Below w.heap.size w w' := by
  have hpr := ProgD.impl_any _ _ _ h hl
  rw [hok] at hpr
  go_enter Tryd.func9, Tryd.ntmps9
  go_wp2_with (go_at_call 24; refine hpr.mono ?_; rintro e w1 ⟨rfl, hb1⟩)
  go_ret
  exact ⟨rfl, hb1⟩
set_option maxHeartbeats 400000 in
theorem impl_nil (w : World) :
    Calls Tryd.prog 9 #[.slice none 0 0] w fun e w' => e = .returned (.string ⟨(showL []).toArray⟩) ∧ Below w.heap.size w w' := by
  have hpr := ProgD.impl_any (.slice none 0 0) [] w (.inl ⟨rfl, rfl⟩) (by simp)
  rw [show progB [] = true from rfl] at hpr
  have hv := fun w => VarC.impl_any 0 w
  rw [show showL [] = out 0 by simp [showL]]
  generalize out 0 = y at *
  go_enter Tryd.func9, Tryd.ntmps9
  go_wp2_with (go_at_call 24; fail)
  refine hpr.mono ?_
  rintro e w1 ⟨rfl, hb1⟩
  go_wp2_with (go_at_call 25; fail)
  refine (hv _).mono ?_
  rintro e w2 ⟨rfl, hb2⟩
  go_wp2_with fail
  go_loop [3, 14] (fun s i => s = .string ⟨y.toArray⟩ ∧ i = .int .i64 0) (fun _ _ => 0)
  case atStart => exact ⟨rfl, rfl⟩
  case round =>
    obtain ⟨rfl, rfl⟩ := hrel
    go_wp2
    go_ret
    exact ⟨rfl, hb1.trans (hb2.mono hb1.size)⟩
theorem impl_any (v : Value) (l : List Q) (w : World) (h : Lies w v l) (hl : l.length ≤ 1048576) :
    Calls Tryd.prog 9 #[v] w fun e w' => e = .returned (.string ⟨(ans l).toArray⟩) ∧ Below w.heap.size w w' := by
  unfold ans
  cases hok : progB l
  · rw [if_neg (by simp)]
    exact impl_no v l w h hl hok
  · rw [if_pos rfl]
    rcases h with ⟨rfl, rfl⟩ | ⟨g, c, rfl, hg, hc⟩
    · exact impl_nil w
    · exact impl_yes g c l w hok hg hc

end Go.Proofs.YteamkpjlcflkcaaDoor.ShowC
