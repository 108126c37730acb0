/- What impl's Listing answers: a line an instruction, or nothing. Condition: the tables lie as the text lays them. -/
import Derived.Test.YteamkpjlcflkcaaDoorFormC
import Derived.Test.YteamkpjlcflkcaaDoorListC
import Derived.Deep.RegionWith
import Derived.Deep.RegionLaw
import Derived.BigRegion
namespace Go.Proofs.YteamkpjlcflkcaaDoor.ListI
open Go.RowKit Go.Deep Num InsC InsO ProgC InsJ ProgD AsmM AsmB TripM ListC FormT FormC
set_option linter.unusedVariables false
set_option linter.unusedSimpArgs false

set_option maxRecDepth 100000 in
set_option maxHeartbeats 400000 in
theorem line_any (on : Nat) (a b c : Int) (w : World) (ht : Tab w) (hok : Q.ok ⟨on, a, b, c⟩ = true) :
    Calls Tryd.prog 29 #[ins on a b c] w fun e w' => e = .returned (.string ⟨(lineT ⟨on, a, b, c⟩).toArray⟩) ∧ Below w.heap.size w w' := by
  have hqa := ok_all _ hok
  simp only at hqa
  have HT := hd ht
  have hon1 : 1 ≤ on ∧ on ≤ 8 := by omega
  obtain ⟨f0, f1⟩ := ht.forms on hon1.2
  have hgf : 0 < w.heap.size := World.block_lt_of_cell? w _ f0
  have c0 : (w.alloc (.cells #[.int .i64 on, .int .i64 a, .int .i64 b, .int .i64 c] 44)).cell? ⟨0, on * 2, none⟩ = some (.string ⟨(nmL on).toArray⟩) := (World.cell?_alloc_lt _ _ _ hgf).trans f0
  have c1 : (w.alloc (.cells #[.int .i64 on, .int .i64 a, .int .i64 b, .int .i64 c] 44)).cell? ⟨0, on * 2 + 1, none⟩ = some (.string ⟨(fmL on).toArray⟩) := (World.cell?_alloc_lt _ _ _ hgf).trans f1
  have ho0 : (0 : Int) ≤ on := by omega
  have ho9 : (on : Int) < 9 := by omega
  clear ht
  go_enter Tryd.func29, Tryd.ntmps29
  go_wp2_with fail
  obtain ⟨WI, hWI⟩ : ∃ WI, (((w.alloc (.cells #[.int .i64 on, .int .i64 a, .int .i64 b, .int .i64 c] 44)).alloc (.cells #[.string ⟨(nmL on).toArray⟩, .string ⟨(fmL on).toArray⟩] 77)).alloc (.cells #[.int .i64 a, .int .i64 b, .int .i64 c] 80)) = WI := ⟨_, rfl⟩
  have hIs : WI.heap.size = w.heap.size + 3 := by rw [← hWI]; simp
  have hI0 : WI.cell? ⟨w.heap.size + 1, 0, none⟩ = some (.string ⟨(nmL on).toArray⟩) := by rw [← hWI]; rw [World.cell?_alloc_lt _ _ _ (by simp)]; simp
  have hI1 : WI.cell? ⟨w.heap.size + 1, 1, none⟩ = some (.string ⟨(fmL on).toArray⟩) := by rw [← hWI]; rw [World.cell?_alloc_lt _ _ _ (by simp)]; simp
  obtain ⟨q, hq⟩ : ∃ q : Q, q = ⟨on, a, b, c⟩ := ⟨_, rfl⟩
  have hIc : Hid (∀ j, j < 3 → WI.cell? ⟨w.heap.size + 1 + 1, j, none⟩ = some (.int .i64 (nth q j))) := hd (by
    intro j hj
    have : j = 0 ∨ j = 1 ∨ j = 2 := by omega
    rw [← hWI, hq]
    rw [World.cell?_alloc_at _ _ _ _ (by simp)]
    rcases this with rfl | rfl | rfl <;> simp [nth])
  have hIb : Below w.heap.size w WI := by
    rw [← hWI]
    exact (((Below.refl _ _).alloc (Nat.le_refl _) _).alloc (by simp) _).alloc (by simp; omega) _
  rw [hWI]
  have hLT : Hid (lineT q = nmL on ++ argsT (fmL on) q (fmL on).length ++ [10]) := hd (by unfold lineT; rw [hq]; simp only [Int.toNat_natCast])
  rw [← hq] at hok
  have HQ := hd hq
  clear hq hWI c0 c1 f0 f1 hgf
  have hnl := nm_len on
  have hfl := fm_len on
  obtain ⟨fs, hfs⟩ : ∃ fs : ByteArray, fs = ⟨(fmL on).toArray⟩ := ⟨_, rfl⟩
  have hfsl : Hid (fs.data.toList = fmL on) := hd (by rw [hfs])
  have hfsz : fs.size = (fmL on).length := by rw [← hfsl.out]; simp
  rw [← hfs] at hI1
  rw [← hfs]
  clear hfs
  go_loopw [5, 23] (fun sv jv wx => ∃ (j : Nat) (y : List UInt8), j ≤ (fmL on).length ∧ jv = .int .i64 j ∧ sv = .string ⟨y.toArray⟩ ∧ y.length ≤ 5 + 10 * j ∧ Hid (y = nmL on ++ argsT (fmL on) q j) ∧ Below WI.heap.size WI wx) (fun _ jv _ => (fmL on).length - (intOf jv).toNat)
  case atStart => exact ⟨0, nmL on, Nat.zero_le _, rfl, rfl, by omega, hd (by simp [argsT]), Below.refl _ _⟩
  case round =>
    obtain ⟨j, y, hj, rfl, rfl, hy, hyy, hbx⟩ := hrel
    by_cases hjl : j < (fmL on).length
    · have hjf : j < fs.size := by omega
      have hfk := get_D fs j hjf
      rw [hfsl.out] at hfk
      have cj := (hbx.cell (p := ⟨w.heap.size + 1 + 1, j, none⟩) (by simp; omega)).trans (hIc.out j (by omega))
      have k0 := (hbx.cell (p := ⟨w.heap.size + 1, 0, none⟩) (by simp; omega)).trans hI0
      have k1 := (hbx.cell (p := ⟨w.heap.size + 1, 1, none⟩) (by simp; omega)).trans hI1
      have hnle := nth_le q hok j
      obtain ⟨r, hr⟩ : ∃ r, argT fs[j] (nth q j) = 32 :: r := by unfold argT; split <;> exact ⟨_, rfl⟩
      have hrl := argT_len fs[j] (nth q j) hnle.1 hnle.2
      rw [hr] at hrl
      simp only [List.length_cons] at hrl
      have hst : Hid (argsT (fmL on) q (j + 1) = argsT (fmL on) q j ++ (32 :: r)) := hd (by rw [← hr, ← hfk]; rfl)
      have hbw := hIb.trans (hbx.mono hIb.size)
      have hsp := fun w ht => showPart_any ⟨(nmL on).toArray⟩ fs j (nth q j) w ht hjf (by omega) hnle.1 hnle.2 r hr
      have HTW := hd (HT.out.below hbw).dec
      replace hsp := hd hsp
      have hj0 : (0 : Int) ≤ j := by omega
      have hj3 : (j : Int) < 3 := by omega
      have hjs : (j : Int) < (fmL on).length := by omega
      have hs1 : ¬ 9223372036854775807 < (1 : Int) + r.length := by omega
      have hs2 : ¬ 9223372036854775807 < (y.length : Int) + (1 + r.length) := by omega
      clear hfk hr
      generalize nth q j = nj at *
      go_wp2_with fail
      go_region_with (go_at_call 54; refine (hsp.out _ (by first | exact HTW.out | exact HTW.out.below (Below.refl _ _).drew)).mono ?_; rintro e w3 ⟨rfl, hb3⟩)
      all_goals
        go_wp2
        go_roundw
        case rel => exact ⟨j + 1, y ++ 32 :: r, by omega, by go_num, by simp only [ByteArray.mk_append_mk]; simp, by simp; omega, hd (by rw [hst.out, hyy.out]; simp), hbx.drew.trans (hb3.mono (by simpa using hbx.size))⟩
        case measure => simp [intOf]; omega
    · obtain rfl : j = (fmL on).length := by omega
      go_wp2
      go_ret
      exact ⟨by rw [← HQ.out, hLT.out, ← hyy.out, ← ByteArray.mk_append_mk]; rfl, hIb.trans (hbx.mono hIb.size)⟩


set_option maxRecDepth 100000 in
set_option maxHeartbeats 1000000 in
theorem impl_yes (g c : Nat) (l : List Q) (w : World) (ht : Tab w) (hok : progB l = true) (hg : g < w.heap.size)
    (hc : ∀ i (q : Q), l[i]? = some q → w.cell? ⟨g, i * 4, none⟩ = some (.int .i64 q.o) ∧ w.cell? ⟨g, i * 4 + 1, none⟩ = some (.int .i64 q.a) ∧ w.cell? ⟨g, i * 4 + 2, none⟩ = some (.int .i64 q.b) ∧ w.cell? ⟨g, i * 4 + 3, none⟩ = some (.int .i64 q.c)) :
    Calls Tryd.prog 11 #[.slice (some ⟨g, 0, none⟩) l.length c] w fun e w' => e = .returned (.string ⟨(listL l).toArray⟩) ∧ Below w.heap.size w w' := by
  have HT := hd ht
  clear ht
  obtain ⟨h40, hall⟩ := ShowA.prog_all hok
  have hL : Lies w (.slice (some ⟨g, 0, none⟩) l.length c) l := .inr ⟨g, c, rfl, hg, hc⟩
  have hpr := ProgD.impl_any _ _ _ hL (by omega)
  rw [hok] at hpr
  clear hok hL
  replace hc := hd hc
  go_enter Tryd.func11, Tryd.ntmps11
  go_wp2_with (go_at_call 24; refine hpr.mono ?_; rintro e w1 ⟨rfl, hb1⟩)
  clear hpr
  go_loopw [3, 11] (fun sv iv wr => ∃ (k : Nat) (z : List UInt8), k ≤ l.length ∧ iv = .int .i64 k ∧ sv = .string ⟨z.toArray⟩ ∧ z.length ≤ 36 * k ∧ Hid (z = listL (l.take k)) ∧ Below w.heap.size w wr) (fun _ iv _ => l.length - (intOf iv).toNat)
  case atStart => exact ⟨0, [], Nat.zero_le _, rfl, rfl, Nat.zero_le _, hd rfl, hb1⟩
  case round =>
    obtain ⟨k, z, hk, rfl, rfl, hz, hzz, hbel⟩ := hrel
    by_cases hlt : k < l.length
    · obtain ⟨q, hq⟩ : ∃ q, l[k]? = some q := ⟨l[k], by simp [hlt]⟩
      obtain ⟨d0, d1, d2, d3⟩ := hc.out k q hq
      have c0 := (hbel.cell (p := ⟨g, k * 4, none⟩) hg).trans d0
      have c1 := (hbel.cell (p := ⟨g, k * 4 + 1, none⟩) hg).trans d1
      have c2 := (hbel.cell (p := ⟨g, k * 4 + 2, none⟩) hg).trans d2
      have c3 := (hbel.cell (p := ⟨g, k * 4 + 3, none⟩) hg).trans d3
      have hqo := hall k q hq
      have hqa := ok_all q hqo
      have HS := hd (list_step l k q hq)
      obtain ⟨qo, qa, qb, qc⟩ := q
      simp only at c0 c1 c2 c3 hqa
      obtain ⟨on, rfl⟩ : ∃ on : Nat, qo = (on : Int) := ⟨qo.toNat, by omega⟩
      have hll : (lineT ⟨on, qa, qb, qc⟩).length ≤ 36 := by
        unfold lineT
        have h1 := nm_len on
        have h2 := fm_len on
        have h3 := argsT_len (fmL on) ⟨on, qa, qb, qc⟩ hqo (fmL on).length
        simp only [Int.toNat_natCast, List.length_append, List.length_cons, List.length_nil]
        omega
      have hbs := hbel.size
      have hbw : Below w.heap.size w (wr.alloc (.cells #[.int .i64 on, .int .i64 qa, .int .i64 qb, .int .i64 qc] 44)) := hbel.alloc hbs _
      have hli := hd (line_any on qa qb qc _ (HT.out.below hbw) hqo)
      generalize lineT ⟨on, qa, qb, qc⟩ = t at *
      have hk0 : (0 : Int) ≤ k := by omega
      have hk1 : (k : Int) < l.length := by omega
      have hs1 : ¬ 9223372036854775807 < (z.length : Int) + t.length := by omega
      clear d0 d1 d2 d3 hqa hq hqo
      go_wp2_with (go_at_call 29; refine hli.out.mono ?_; rintro e w3 ⟨rfl, hb3⟩)
      go_roundw
      case rel => exact ⟨k + 1, z ++ t, by omega, by go_num, by rw [ByteArray.mk_append_mk], by simp; omega, hd (by rw [HS.out, hzz.out]), hbw.trans (hb3.mono hbw.size)⟩
      case measure => simp [intOf]; omega
    · obtain rfl : k = l.length := by omega
      go_wp2
      go_ret
      exact ⟨by rw [hzz.out, List.take_length]; rfl, hbel⟩

set_option maxHeartbeats 400000 in
theorem impl_no (v : Value) (l : List Q) (w : World) (h : Lies w v l) (hl : l.length ≤ 1048576) (hok : progB l = false) :
    Calls Tryd.prog 11 #[v] w fun e w' => e = .returned (.string ⟨#[]⟩) ∧ Below w.heap.size w w' := by
  have hpr := ProgD.impl_any _ _ _ h hl
  rw [hok] at hpr
  go_enter Tryd.func11, Tryd.ntmps11
  go_wp2_with (go_at_call 24; refine hpr.mono ?_; rintro e w1 ⟨rfl, hb1⟩)
  go_ret
  exact ⟨rfl, hb1⟩
set_option maxHeartbeats 400000 in
theorem impl_nil (w : World) :
    Calls Tryd.prog 11 #[.slice none 0 0] w fun e w' => e = .returned (.string ⟨#[]⟩) ∧ Below w.heap.size w w' := by
  have hpr := ProgD.impl_any (.slice none 0 0) [] w (.inl ⟨rfl, rfl⟩) (by simp)
  rw [show progB [] = true from rfl] at hpr
  go_enter Tryd.func11, Tryd.ntmps11
  go_wp2_with (go_at_call 24; refine hpr.mono ?_; rintro e w1 ⟨rfl, hb1⟩)
  go_loop [3, 11] (fun s i => s = .string ⟨#[]⟩ ∧ i = .int .i64 0) (fun _ _ => 0)
  case atStart => exact ⟨rfl, rfl⟩
  case round =>
    obtain ⟨rfl, rfl⟩ := hrel
    go_wp2
    go_ret
    exact ⟨rfl, hb1⟩
theorem impl_any (v : Value) (l : List Q) (w : World) (ht : Tab w) (h : Lies w v l) (hl : l.length ≤ 1048576) :
    Calls Tryd.prog 11 #[v] w fun e w' => e = .returned (.string ⟨(ansL l).toArray⟩) ∧ Below w.heap.size w w' := by
  unfold ansL
  cases hok : progB l
  · rw [if_neg (by simp)]
    exact impl_no v l w h hl hok
  · rw [if_pos rfl]
    rcases h with ⟨rfl, rfl⟩ | ⟨g, c, rfl, hg, hc⟩
    · exact impl_nil w
    · exact impl_yes g c l w ht hok hg hc

end Go.Proofs.YteamkpjlcflkcaaDoor.ListI
