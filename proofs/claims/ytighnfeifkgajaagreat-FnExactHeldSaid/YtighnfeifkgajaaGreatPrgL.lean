/- Lists of programs: how they come in, the law's own copy of one, its size, its comparison. Condition: none. -/
import Derived.Test.YtighnfeifkgajaaGreatRowC
import Derived.Test.YtighnfeifkgajaaGreatProgD
namespace Go.Proofs.YtighnfeifkgajaaGreat.PrgL
open Go.RowKit Go.ChangeShapes Go.WideShapes Go.Deep Num InsC InsO ProgC IntC RowC
set_option maxRecDepth 100000
set_option linter.unusedVariables false
set_option linter.unusedSimpArgs false

section
variable {H : Type} {enc : TypeId × Value → H} {w : World} {base : Nat} {spare : Nat → Bool} {held : Bool}
theorem prog_of {fuel : Nat} {u : Value} {x : DataW H × List MemPlace} (hf : DataW.trod enc Tryz.prog w base spare held fuel 91 [u] = some x) : IsProg w u := by
  rcases open_slice Tryz.underlying91 hf with ⟨hcs, _⟩ | ⟨x, l, c, m, n, D, Pl, hcs, _, hl, hm, hmm, _, hx⟩
  · simp at hcs
    exact .inl hcs
  · simp at hcs
    subst hcs
    have hlm : l ≤ m := by rw [hmm]; split <;> omega
    have each : ∀ i, i < l → ∃ q : Q, ∀ j u, q.cells[j]? = some u → w.cell? (x.add (i * 4 + j)) = some u := by
      intro i hi
      obtain ⟨cs', h1, h2⟩ := hx i (by omega)
      obtain ⟨q, rfl⟩ := trod_ins h2
      rw [cells_ins] at h1
      obtain ⟨_, _, hc⟩ := World.cells?_some h1
      refine ⟨q, fun j u hj => ?_⟩
      have hj4 : j < 4 := by have := (List.getElem?_eq_some_iff.1 hj).1; simpa [Q.cells] using this
      rw [← add_add, hc j hj4, hj]
    obtain ⟨f, hf⟩ := choose_lt each
    refine .inr ⟨x, c, (List.range l).map f, by simp, by simpa using hl, hm, fun i q hq j u hj => ?_⟩
    rw [List.getElem?_map] at hq
    obtain ⟨i', hi', rfl⟩ := Option.map_eq_some_iff.1 hq
    obtain ⟨hi1, hi2⟩ := List.getElem?_eq_some_iff.1 hi'
    simp at hi1 hi2
    subst hi2
    exact hf i hi1 j u hj
/-- A list of programs that came in. -/
def IsProgs (w : World) (v : Value) : Prop := (v = .slice none 0 0) ∨
  ∃ (x : Addr) (cap : Nat) (us : List Value), v = .slice (some x) us.length cap ∧ us.length ≤ cap ∧ cap ≤ maxLen ∧ ∀ i u, us[i]? = some u → w.cell? (x.add i) = some u ∧ IsProg w u
theorem progs_of {fuel : Nat} {u : Value} {x : DataW H × List MemPlace} (hf : DataW.trod enc Tryz.prog w base spare held fuel 22 [u] = some x) : IsProgs w u := by
  rcases open_slice1 Tryz.underlying22 (by kernel_rfl) hf with ⟨hcs, _⟩ | ⟨x, l, c, m, n, V, D, Pl, hcs, _, hl, hm, hmm, _, hx⟩
  · simp at hcs
    exact .inl hcs
  · simp at hcs
    subst hcs
    have hlm : l ≤ m := by rw [hmm]; split <;> omega
    refine .inr ⟨x, c, (List.range l).map V, by simp, by simpa using hl, hm, fun i u hu => ?_⟩
    rw [List.getElem?_map] at hu
    obtain ⟨i', hi', rfl⟩ := Option.map_eq_some_iff.1 hu
    obtain ⟨hi1, hi2⟩ := List.getElem?_eq_some_iff.1 hi'
    simp at hi1 hi2
    subst hi2
    obtain ⟨h1, h2⟩ := hx i (by omega)
    exact ⟨h1, prog_of h2⟩
theorem open_progs {v : Value} {d : DataW H} {ps : List MemPlace} {b0 : Nat} {r : Reach} (hval : Value.okWide Tryz.prog w r b0 22 v) (h : DataW.Trod enc Tryz.prog w base spare held 22 v d ps) : IsProgs w v := by
  obtain ⟨a, len, cap, rfl⟩ := okWide_slice Tryz.underlying22 hval
  obtain ⟨fuel, hf⟩ := h
  exact progs_of (by simpa [Value.cells] using hf)
end

/-- What came in as u is the list l: its copy can be had whenever it is small enough. -/
def ToIns (w : World) (u : Value) (l : List Q) : Prop := (∃ a cap, u = .slice a l.length cap) ∧ l.length ≤ maxLen ∧ ∀ w1, Below w.heap.size w w1 → l.length ≤ 1048576 →
    Calls Tryz.prog 77 #[u] w1 fun e w' => ∃ v', e = .returned v' ∧ w'.ownsRow w1.heap.size 143 4 v' l.length (flat l) ∧ Below w1.heap.size w1 w'
theorem toIns_any (u : Value) (w : World) (h : IsProg w u) : ∃ l, ToIns w u l := by
  obtain ⟨l, ⟨n, cap, a, rfl, rfl, hn⟩, h2⟩ := toInsS_any u w h
  exact ⟨l, ⟨a, cap, rfl⟩, hn, h2⟩
theorem ToIns.below {w w' : World} {u : Value} {l : List Q} (h : ToIns w u l) (hb : Below w.heap.size w w') : ToIns w' u l := ⟨h.1, h.2.1, fun w1 hb1 => h.2.2 w1 (hb.trans (hb1.mono hb.size))⟩
/-- The list of programs L came in as v. -/
def ArgProgs (w : World) (v : Value) (L : List (List Q)) : Prop := (v = .slice none 0 0 ∧ L = []) ∨
  ∃ (x : Addr) (cap : Nat) (us : List Value), v = .slice (some x) L.length cap ∧ us.length = L.length ∧ L.length ≤ cap ∧ cap ≤ maxLen ∧ ∀ i u l, us[i]? = some u → L[i]? = some l → w.cell? (x.add i) = some u ∧ ToIns w u l
theorem args_of {w : World} {v : Value} (h : IsProgs w v) : ∃ L, ArgProgs w v L := by
  rcases h with rfl | ⟨x, cap, us, rfl, h1, h2, h3⟩
  · exact ⟨[], .inl ⟨rfl, rfl⟩⟩
  · have each : ∀ i, i < us.length → ∃ l : List Q, ∀ u, us[i]? = some u → ToIns w u l := by
      intro i hi
      obtain ⟨l, hl⟩ := toIns_any us[i] w (h3 i us[i] (List.getElem?_eq_getElem hi)).2
      exact ⟨l, fun u hu => by rw [List.getElem?_eq_getElem hi] at hu; simp at hu; subst hu; exact hl⟩
    obtain ⟨f, hf⟩ := choose_lt each
    refine ⟨(List.range us.length).map f, .inr ⟨x, cap, us, by simp, by simp, by simpa using h1, h2, fun i u l hu hl => ?_⟩⟩
    rw [List.getElem?_map] at hl
    obtain ⟨i', hi', rfl⟩ := Option.map_eq_some_iff.1 hl
    obtain ⟨hi1, hi2⟩ := List.getElem?_eq_some_iff.1 hi'
    simp at hi1 hi2
    subst hi2
    exact ⟨(h3 i u hu).1, hf i hi1 u hu⟩
theorem ArgProgs.below {w w' : World} {v : Value} {L : List (List Q)} (h : ArgProgs w v L) (hb : Below w.heap.size w w') : ArgProgs w' v L := by
  rcases h with h | ⟨x, cap, us, h1, h2, h3, h4, h5⟩
  · exact .inl h
  · refine .inr ⟨x, cap, us, h1, h2, h3, h4, fun i u l hu hl => ?_⟩
    obtain ⟨a, b⟩ := h5 i u l hu hl
    exact ⟨(hb.cell (World.block_lt_of_cell? w _ a)).trans a, b.below hb⟩

/-- How many instructions there are in all. -/
def sumL (L : List (List Q)) : Nat := (L.map List.length).sum
/-- What the law counts. -/
def wt (L : List (List Q)) : Nat := L.length + sumL L
theorem sum_step (L : List (List Q)) (i : Nat) (l : List Q) (h : L[i]? = some l) : sumL (L.take (i + 1)) = sumL (L.take i) + l.length := by
  obtain ⟨hi, rfl⟩ := List.getElem?_eq_some_iff.1 h
  unfold sumL
  rw [List.take_succ_eq_append_getElem hi, List.map_append, List.sum_append]
  simp only [List.map_cons, List.map_nil, List.sum_cons, List.sum_nil, Nat.add_zero]
theorem sum_take (L : List (List Q)) (i : Nat) : sumL (L.take i) ≤ sumL L := by
  have : sumL L = sumL (L.take i) + sumL (L.drop i) := by
    unfold sumL
    rw [← List.sum_append, ← List.map_append, List.take_append_drop]
  omega
theorem sum_mem (L : List (List Q)) (i : Nat) (l : List Q) (h : L[i]? = some l) : sumL (L.take i) + l.length ≤ sumL L := by
  rw [← sum_step L i l h]; exact sum_take L (i + 1)

theorem sz_some (x : Addr) (cap : Nat) (us : List Value) (L : List (List Q)) (left r : Int) (w : World) (h0 : 0 ≤ left) (h1 : left ≤ 1048576) (hul : us.length = L.length) (hLc : L.length ≤ cap) (hcm : cap ≤ maxLen)
    (hc : ∀ i u l, us[i]? = some u → L[i]? = some l → w.cell? (x.add i) = some u ∧ ToIns w u l) (HR : Hid (r = if left < wt L then (-1 : Int) else left - wt L)) :
    Calls Tryz.prog 18 #[.slice (some x) L.length cap, .int .i64 left] w fun e w' => e = .returned (.int .i64 r) ∧ w = w' := by
  unfold maxLen at hcm
  have HC := hd hc
  clear hc
  by_cases hbig : left < L.length
  · obtain rfl : r = -1 := HR.out.trans (if_pos (by unfold wt; omega))
    have hneg : left - L.length < 0 := by omega
    clear HR
    go_enter Tryz.func18, Tryz.ntmps18
    go_wp2
    go_ret
    exact ⟨rfl, rfl⟩
  · have hneg : decide (left - L.length < 0) = false := by simp; omega
    go_enter Tryz.func18, Tryz.ntmps18
    go_wp2_with fail
    go_loop [1, 5] (fun lv i => ∃ (k : Nat) (m : Int), k ≤ L.length ∧ i = .int .i64 k ∧ lv = .int .i64 m ∧ 0 ≤ m ∧ m ≤ 1048576 ∧ Hid (m = left - L.length - sumL (L.take k))) (fun _ i => L.length - (intOf i).toNat)
    case atStart => exact ⟨0, left - L.length, Nat.zero_le _, rfl, rfl, by omega, by omega, hd (by simp [sumL])⟩
    case round =>
      clear hneg
      obtain ⟨k, m, hk, rfl, rfl, hm0, hm1, hm⟩ := hrel
      by_cases hlt : k < L.length
      · obtain ⟨l, hl⟩ : ∃ l, L[k]? = some l := ⟨L[k], by simp [hlt]⟩
        obtain ⟨u, hu⟩ : ∃ u, us[k]? = some u := ⟨us[k]'(by omega), by simp [hul, hlt]⟩
        obtain ⟨c0, ⟨a, c, rfl⟩, hlm, _⟩ := HC.out k u l hu hl
        unfold maxLen at hlm
        have hs := hd (sum_step L k l hl)
        have hs2 := hd (sum_mem L k l hl)
        clear hl hu
        by_cases hno : m < l.length
        · have HE : Hid (r = -1) := hd (HR.out.trans (if_pos (by have := hs2.out; have := hm.out; unfold wt; omega)))
          have hsz := fun w => ProgD.szInsS_no a l.length c m w hm0 hm1 (by unfold maxLen; omega) hno
          clear hno
          go_wp2_with (go_at_call 65; refine (hsz _).mono ?_; rintro e w' ⟨rfl, rfl⟩)
          go_ret
          exact ⟨by rw [HE.out]; rfl, rfl⟩
        · have hsz := fun w => ProgD.szInsS_yes a l.length c m w hm0 hm1 (by omega)
          have hneg : decide (m - l.length < 0) = false := by simp; omega
          go_wp2_with (go_at_call 65; refine (hsz _).mono ?_; rintro e w' ⟨rfl, rfl⟩)
          go_round
          case rel => exact ⟨k + 1, m - l.length, by omega, by go_num, rfl, by omega, by omega, hd (by have := hs.out; have := hm.out; omega)⟩
          case measure => simp [intOf]; omega
      · obtain rfl : k = L.length := by omega
        have HE : Hid (r = m) := hd (by
          have h1 := hm.out
          have h2 := HR.out
          rw [List.take_length] at h1
          rw [if_neg (by unfold wt; omega)] at h2
          unfold wt at h2
          omega)
        go_wp2
        go_ret
        exact ⟨by rw [HE.out]; rfl, rfl⟩
theorem sz_nil (left : Int) (w : World) (h0 : 0 ≤ left) (h1 : left ≤ 1048576) :
    Calls Tryz.prog 18 #[.slice none 0 0, .int .i64 left] w fun e w' => e = .returned (.int .i64 left) ∧ w = w' := by
  have hneg : decide (left < 0) = false := by simp; omega
  go_enter Tryz.func18, Tryz.ntmps18
  go_wp2_with fail
  go_loop [1, 5] (fun lv i => lv = .int .i64 left ∧ i = .int .i64 0) (fun _ _ => 0)
  case atStart => exact ⟨by simp, rfl⟩
  case round =>
    obtain ⟨rfl, rfl⟩ := hrel
    go_wp2
    go_ret
    exact ⟨rfl, rfl⟩
theorem sz_any (v : Value) (L : List (List Q)) (left : Int) (w : World) (h : ArgProgs w v L) (h0 : 0 ≤ left) (h1 : left ≤ 1048576) :
    Calls Tryz.prog 18 #[v, .int .i64 left] w fun e w' => e = .returned (.int .i64 (if left < wt L then -1 else left - wt L)) ∧ w = w' := by
  rcases h with ⟨rfl, rfl⟩ | ⟨x, cap, us, rfl, h2, h3, h4, h5⟩
  · refine (sz_nil left w h0 h1).mono ?_
    rintro e w' ⟨rfl, rfl⟩
    refine ⟨?_, rfl⟩
    rw [if_neg (by simp [wt, sumL]; omega)]
    simp [wt, sumL]
  · exact sz_some x cap us L left _ w h0 h1 h2 h3 h4 h5 (hd rfl)

theorem infoProg : (Tryz.prog.info? 101).map (fun i => (i.zero, i.size, i.bytes)) = some (some (.slice none 0 0), 1, 24) := by kernel_rfl
/-- The first j of the copies are made. -/
structure Pre (g : Nat) (L : List (List Q)) (z : List Value) (j : Nat) (bss : List (List Nat)) (wr : World) : Prop where
  len : bss.length = j
  at_ : ∀ i u l b, i < j → z[i]? = some u → L[i]? = some l → bss[i]? = some b → InsSO wr u l b
  nodup : bss.flatten.Nodup
  above : ∀ y ∈ bss.flatten, g < y
  lt : ∀ y ∈ bss.flatten, y < wr.heap.size
theorem pre_start (g : Nat) (L : List (List Q)) (z : List Value) (wr : World) : Pre g L z 0 [] wr := ⟨rfl, fun i u l b h => by omega, by simp, by simp, by simp⟩
theorem pre_step {g : Nat} {L : List (List Q)} {z : List Value} {j : Nat} {bss : List (List Nat)} {wr w2 : World} {u : Value} {l : List Q} (h : Pre g L z j bss wr) (hj : j < z.length) (hg : g < wr.heap.size) (hl : L[j]? = some l) (hb : Below wr.heap.size wr w2) (hu : w2.ownsRow wr.heap.size 143 4 u l.length (flat l)) :
    Pre g L (z.set j u) (j + 1) (bss ++ [blk u]) (w2.setCell ⟨g, j, none⟩ u) := by
  have hlt := own_lt hu
  have hk : Keep [g] wr (w2.setCell ⟨g, j, none⟩ u) := (Keep.of_below [g] hb).trans (Keep.set w2 g j u [g] (by simp))
  have hs : (w2.setCell ⟨g, j, none⟩ u).heap.size = w2.heap.size := by simp
  refine ⟨by simp [h.len], fun i u' l' b hi hz hL hbs => ?_, ?_, ?_, ?_⟩
  · by_cases hij : i = j
    · subst hij
      rw [List.getElem?_set_self hj] at hz
      rw [hl] at hL
      rw [List.getElem?_append_right (by rw [h.len]; exact Nat.le_refl _), h.len] at hbs
      simp at hz hL hbs
      subst hz hL hbs
      refine ⟨own_kept (own_zero hu) (Keep.set w2 g i u [g] (by simp)) (fun y hy hyg => ?_), rfl⟩
      simp at hyg
      have := hlt y hy
      omega
    · rw [List.getElem?_set_ne (fun h => hij h.symm)] at hz
      rw [List.getElem?_append_left (by rw [h.len]; omega)] at hbs
      exact (h.at_ i u' l' b (by omega) hz hL hbs).keep hk (fun y hy hyg => by
        have := h.above y (mem_flat hbs hy)
        simp at hyg
        omega)
  · rw [List.flatten_append]
    refine List.nodup_append.2 ⟨h.nodup, ?_, fun a ha b hb' => ?_⟩
    · simp
      unfold blk
      split <;> simp
    · simp at hb'
      have := hlt b hb'
      have := h.lt a ha
      omega
  · intro y hy
    rw [List.flatten_append] at hy
    rcases List.mem_append.1 hy with hy | hy
    · exact h.above y hy
    · simp at hy
      have := hlt y hy
      omega
  · intro y hy
    rw [hs]
    rw [List.flatten_append] at hy
    rcases List.mem_append.1 hy with hy | hy
    · exact Nat.lt_of_lt_of_le (h.lt y hy) hb.size
    · simp at hy
      exact (hlt y hy).2
theorem pre_done {g B : Nat} {L : List (List Q)} {z : List Value} {bss : List (List Nat)} {wr : World} (h : Pre g L z L.length bss wr) (hown : wr.ownsRow B 101 1 (.slice (some ⟨g, 0, none⟩) L.length L.length) L.length z) (hB : B ≤ g) :
    ∃ bs, Progs wr (.slice (some ⟨g, 0, none⟩) L.length L.length) L bs ∧ bs.Nodup ∧ ∀ b ∈ bs, B ≤ b := by
  have hzl := hown.1
  refine ⟨_, ⟨z, bss, own_zero hown, h.len, rfl, fun i l b hl hb => ?_⟩, ?_, ?_⟩
  · have hi := (List.getElem?_eq_some_iff.1 hl).1
    obtain ⟨u, hu⟩ : ∃ u, z[i]? = some u := ⟨z[i]'(by omega), List.getElem?_eq_getElem _⟩
    refine ⟨u, ?_, h.at_ i u l b hi hu hl hb⟩
    obtain ⟨h1, h2⟩ := List.getElem?_eq_some_iff.1 hu
    rw [Nat.mul_one, List.drop_eq_getElem_cons h1, h2]
    rfl
  · rw [blk_some]
    refine List.nodup_append.2 ⟨by simp, h.nodup, fun a ha b hb => ?_⟩
    simp at ha
    have := h.above b hb
    omega
  · intro b hb
    rw [blk_some] at hb
    rcases List.mem_append.1 hb with hb | hb
    · simp at hb; omega
    · have := h.above b hb; omega

set_option maxHeartbeats 1000000 in
theorem to_some (x : Addr) (cap : Nat) (us : List Value) (L : List (List Q)) (w : World) (hw : wt L ≤ 1048576) (hul : us.length = L.length) (hLc : L.length ≤ cap)
    (hc : ∀ i u l, us[i]? = some u → L[i]? = some l → w.cell? (x.add i) = some u ∧ ToIns w u l) :
    Calls Tryz.prog 31 #[.slice (some x) L.length cap] w fun e w' => ∃ v bs, e = .returned v ∧ Progs w' v L bs ∧ bs.Nodup ∧ (∀ b ∈ bs, w.heap.size ≤ b) ∧ Below w.heap.size w w' := by
  obtain ⟨i0, hi, hz0, hz1, hz2⟩ := info_parts infoProg
  have hLs : L.length ≤ 1048576 := by unfold wt at hw; omega
  have HW : Hid (sumL L ≤ 1048576) := hd (by unfold wt at hw; omega)
  have HC := hd hc
  clear hc hw
  go_enter Tryz.func31, Tryz.ntmps31
  go_wp2_with (at_make; refine wpList_make_full _ rfl _ _ 32 rfl w.heap.size 101 i0 (.slice none 0 0) 1 Tryz.underlying32 hi hz0 hz1 .i64 .i64 _ _ L.length rfl rfl rfl rfl (by rw [hz2]; omega) (by unfold maxLen; omega) (Nat.le_refl _) ?_)
  intro w1 hown0 hgrow
  have hbel0 : Below w.heap.size w w1 := (Below.refl _ _).grown hgrow (Nat.le_refl _) (by simp)
  have hlt0 : w.heap.size < w1.heap.size := (hown0.lt w.heap.size rfl).2
  clear hgrow hi hz0 hz1 hz2
  go_wp2_with fail
  go_loopw [4] (fun i wr => ∃ k : Nat, k ≤ L.length ∧ i = .int .i64 k ∧ (∃ z bss, wr.ownsRow w.heap.size 101 1 (.slice (some ⟨w.heap.size, 0, none⟩) L.length L.length) L.length z ∧ Pre w.heap.size L z k bss wr) ∧ w.heap.size < wr.heap.size ∧ Below w.heap.size w wr) (fun i _ => L.length - (intOf i).toNat)
  case atStart => exact ⟨0, Nat.zero_le _, rfl, ⟨_, [], hown0, pre_start _ _ _ _⟩, hlt0, hbel0⟩
  case round =>
    clear hown0 hbel0 hlt0
    obtain ⟨k, hk, rfl, ⟨z, bss, hown, hpre⟩, hlt2, hbel⟩ := hrel
    by_cases hlt : k < L.length
    · obtain ⟨l, hl⟩ : ∃ l, L[k]? = some l := ⟨L[k], by simp [hlt]⟩
      obtain ⟨u, hu⟩ : ∃ u, us[k]? = some u := ⟨us[k]'(by omega), by simp [hul, hlt]⟩
      obtain ⟨c0, hto⟩ := HC.out k u l hu hl
      obtain ⟨a, c, rfl⟩ := hto.1
      have hll : l.length ≤ 1048576 := by have := sum_mem L k l hl; have := HW.out; omega
      replace c0 := (hbel.cell (World.block_lt_of_cell? w _ c0)).trans c0
      have HT := hd (hto.2.2 wr hbel hll)
      have HL := hd hl
      have hzl : z.length = L.length * 1 := hown.1
      clear hto hl hu
      go_wp2_with (go_at_call 77; fail)
      refine HT.out.mono ?_
      rintro e w2 ⟨v', rfl, hr, hb2⟩
      have hown2 := own_kept hown (Keep.of_below [] hb2) (by simp)
      have d0 := hown2.cellAt k (by omega)
      rw [List.getElem?_eq_getElem (by omega)] at d0
      generalize z[k] = y0 at d0
      have f0 := hown2.frozenAt k
      have HP := hd (pre_step hpre (by omega) hlt2 HL.out hb2 hr)
      have hbe := hbel.trans (hb2.mono hbel.size)
      have hlt3 := Nat.lt_of_lt_of_le hlt2 hb2.size
      obtain ⟨a', c', rfl⟩ := own_slice hr
      clear hpre hr HT
      go_wp2_with fail
      clear d0 f0
      go_roundw
      case rel => exact ⟨k + 1, by omega, by go_num, ⟨_, _, (hown2.stored k _).1, HP.out⟩, by simpa using hlt3, hbe.setCell (Nat.le_refl _) _⟩
      case measure => simp [intOf]; omega
    · obtain rfl : k = L.length := by omega
      go_wp2
      go_ret
      obtain ⟨bs, h1, h2, h3⟩ := pre_done hpre hown (Nat.le_refl _)
      exact ⟨_, bs, rfl, h1, h2, h3, hbel⟩
theorem to_nil (w : World) : Calls Tryz.prog 31 #[.slice none 0 0] w fun e w' => ∃ v bs, e = .returned v ∧ Progs w' v [] bs ∧ bs.Nodup ∧ (∀ b ∈ bs, w.heap.size ≤ b) ∧ Below w.heap.size w w' := by
  obtain ⟨i0, hi, hz0, hz1, hz2⟩ := info_parts infoProg
  go_enter Tryz.func31, Tryz.ntmps31
  go_wp2_with (at_make; refine wpList_make_full _ rfl _ _ 32 rfl w.heap.size 101 i0 (.slice none 0 0) 1 Tryz.underlying32 hi hz0 hz1 .i64 .i64 _ _ 0 rfl rfl rfl rfl (by rw [hz2]; omega) (by unfold maxLen; omega) (Nat.le_refl _) ?_)
  intro w1 hown0 hgrow
  have hbel0 : Below w.heap.size w w1 := (Below.refl _ _).grown hgrow (Nat.le_refl _) (by simp)
  clear hgrow hi hz0 hz1 hz2
  go_wp2_with fail
  go_loop [4] (fun i => i = .int .i64 0) (fun _ => 0)
  case atStart => rfl
  case round =>
    obtain rfl := hrel
    go_wp2
    go_ret
    obtain ⟨bs, h1, h2, h3⟩ := pre_done (L := []) (pre_start w.heap.size [] _ w1) hown0 (Nat.le_refl _)
    exact ⟨_, rfl, bs, h1, h2, h3, hbel0⟩
theorem to_any (v : Value) (L : List (List Q)) (w : World) (h : ArgProgs w v L) (hw : wt L ≤ 1048576) :
    Calls Tryz.prog 31 #[v] w fun e w' => ∃ v bs, e = .returned v ∧ Progs w' v L bs ∧ bs.Nodup ∧ (∀ b ∈ bs, w.heap.size ≤ b) ∧ Below w.heap.size w w' := by
  rcases h with ⟨rfl, rfl⟩ | ⟨x, cap, us, rfl, h2, h3, h4, h5⟩
  · exact to_nil w
  · exact to_some x cap us L w hw h2 h3 h5

theorem eq_nil (a a' : Option Addr) (c c' : Nat) (w : World) :
    Calls Tryz.prog 49 #[.slice a 0 c, .slice a' 0 c'] w fun e w' => e = .returned (.bool true) ∧ Below w.heap.size w w' := by
  go_enter Tryz.func49, Tryz.ntmps49
  go_wp2_with fail
  go_loop [5] (fun i => i = .int .i64 0) (fun _ => 0)
  case atStart => rfl
  case round =>
    obtain rfl := hrel
    go_wp2
    go_ret
    exact ⟨rfl, Below.refl _ _⟩
set_option maxHeartbeats 1000000 in
theorem eq_some (g c g' c' : Nat) (L : List (List Q)) (bs bs' : List Nat) (w : World) (hw : wt L ≤ 1048576) (hg : g < w.heap.size) (hg' : g' < w.heap.size)
    (h : Progs w (.slice (some ⟨g, 0, none⟩) L.length c) L bs) (h' : Progs w (.slice (some ⟨g', 0, none⟩) L.length c') L bs') :
    Calls Tryz.prog 49 #[.slice (some ⟨g, 0, none⟩) L.length c, .slice (some ⟨g', 0, none⟩) L.length c'] w fun e w' => e = .returned (.bool true) ∧ Below w.heap.size w w' := by
  have hLs : L.length ≤ 1048576 := by unfold wt at hw; omega
  have HW : Hid (sumL L ≤ 1048576) := hd (by unfold wt at hw; omega)
  have HA := hd h
  have HB := hd h'
  clear h h' hw
  go_enter Tryz.func49, Tryz.ntmps49
  go_wp2_with fail
  go_loopw [5] (fun i wr => ∃ k : Nat, k ≤ L.length ∧ i = .int .i64 k ∧ Below w.heap.size w wr) (fun i _ => L.length - (intOf i).toNat)
  case atStart => exact ⟨0, Nat.zero_le _, rfl, Below.refl _ _⟩
  case round =>
    obtain ⟨k, hk, rfl, hbel⟩ := hrel
    by_cases hlt : k < L.length
    · obtain ⟨l, cs, b, hl, ⟨v1, rfl, hv1⟩, ho1⟩ := (HA.out.below good_prog hbel).out hlt
      obtain ⟨l2, cs2, b2, hl2, ⟨v2, rfl, hv2⟩, ho2⟩ := (HB.out.below good_prog hbel).out hlt
      rw [hl] at hl2
      simp at hl2
      subst hl2
      have c0 := ho1.cell 0 v1 rfl
      have e0 := ho2.cell 0 v2 rfl
      rw [Nat.mul_one, Nat.add_zero] at c0 e0
      have hll : l.length ≤ 1048576 := by have := sum_mem L k l hl; have := HW.out; omega
      obtain ⟨a1, c1, rfl⟩ := hv1.slice
      obtain ⟨a2, c2, rfl⟩ := hv2.slice
      have H1 := hd hv1.lies
      have H2 := hd hv2.lies
      have hk0 : (0 : Int) ≤ k := by omega
      have hk1 : (k : Int) < L.length := by omega
      clear ho1 ho2 hv1 hv2 hl
      go_wp2_with fail
      go_region_with (go_at_call 108; refine (ProgD.eq_any _ _ l _ (H1.out.below (Below.refl _ _).drew) (H2.out.below (Below.refl _ _).drew) hll).mono ?_; rintro e w2 ⟨rfl, hb2⟩)
      all_goals
        go_wp2
        go_roundw
        case rel => exact ⟨k + 1, by omega, by go_num, hbel.drew.trans (hb2.mono (by have := hbel.size; simp; omega))⟩
        case measure => simp [intOf]; omega
    · go_wp2
      go_ret
      exact ⟨rfl, hbel⟩
theorem eq_any (v v' : Value) (L : List (List Q)) (bs bs' : List Nat) (w : World) (h : Progs w v L bs) (h' : Progs w v' L bs') (hw : wt L ≤ 1048576) :
    Calls Tryz.prog 49 #[v, v'] w fun e w' => e = .returned (.bool true) ∧ Below w.heap.size w w' := by
  rcases h.cases with ⟨rfl, rfl, rfl⟩ | ⟨g, c, rfl, hg, _⟩
  · obtain ⟨a, c, rfl⟩ := h'.slice
    exact eq_nil _ _ _ _ w
  · rcases h'.cases with ⟨rfl, rfl, rfl⟩ | ⟨g', c', rfl, hg', _⟩
    · exact eq_nil _ _ _ _ w
    · exact eq_some g c g' c' L bs bs' w hw hg hg' h h'

end Go.Proofs.YtighnfeifkgajaaGreat.PrgL
