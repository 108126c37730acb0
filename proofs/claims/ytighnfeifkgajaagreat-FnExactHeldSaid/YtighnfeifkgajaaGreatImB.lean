/- What impl's all answers of lists of Opens, pipes, files and numbers, whatever is asked of each. Condition: none. -/
import Derived.Test.YtighnfeifkgajaaGreatPlcM
import Derived.Test.YtighnfeifkgajaaGreatBootA
import Derived.Deep.RegionWith
import Derived.BigRegion
namespace Go.Proofs.YtighnfeifkgajaaGreat.ImB
open Go.RowKit Go.Deep Num InsC InsO ProgC IntC RowC PrgL UnC PlcM BootA
set_option maxRecDepth 100000
set_option linter.unusedVariables false
set_option linter.unusedSimpArgs false

theorem any_not {α : Type} (f : α → Bool) (l : List α) (k : Nat) (h : l.length = k) (ha : (l.take k).all (fun x => !f x) = true) : l.any f = false := by
  rw [← h, List.take_length] at ha
  rw [List.any_eq_false]
  intro x hx
  have := List.all_eq_true.1 ha x hx
  simpa using this
theorem any_yes {α : Type} (f : α → Bool) (l : List α) (k : Nat) (x : α) (h : l[k]? = some x) (hf : f x = true) : l.any f = true := List.any_eq_true.2 ⟨x, List.mem_of_getElem? h, hf⟩
theorem all_any_not {α : Type} (g : α → Bool) (l : List α) : (!(l.any fun x => !g x)) = l.all g := by
  induction l with
  | nil => rfl
  | cons x l ih => rw [List.any_cons, List.all_cons, ← ih]; cases g x <;> simp

set_option maxHeartbeats 1000000 in
theorem idxAllOpen (v : Value) (l : List Ope) (bs : List Nat) (g : Ope → Bool) (B : Nat) (w : World) (hs : l.length ≤ 1048576) (h : Opens w v l bs) (hF : (∀ X, Below w.heap.size w X → ∀ (i : Nat) (x : Ope), l[i]? = some x → ∀ (_ : Unit), Calls Tryz.prog 99 #[.agg x.cells.toArray, .pointer (some ⟨B, 0, none⟩)] X fun e w' => e = .returned (.bool (g x)) ∧ Below X.heap.size X w')) :
    Calls Tryz.prog 134 #[v, .func (.func 99) #[] #[.pointer (some ⟨B, 0, none⟩)]] w fun e w' => ∃ r : Int, e = .returned (.int .i64 r) ∧ Hid (decide (0 ≤ r) = l.any g) ∧ Below w.heap.size w w' := by
  obtain ⟨a, c, rfl⟩ : ∃ a c, v = .slice a l.length c := h.slice
  have HR := hd h
  have HF := hd hF
  clear h hF
  go_enter Tryz.func134, Tryz.ntmps134
  go_wp2_with fail
  go_loopw [8] (fun i wr => ∃ k : Nat, k ≤ l.length ∧ i = .int .i64 k ∧ Hid ((l.take k).all (fun x => !g x) = true) ∧ Below w.heap.size w wr) (fun i _ => l.length - (intOf i).toNat)
  case atStart => exact ⟨0, Nat.zero_le _, rfl, hd rfl, Below.refl _ _⟩
  case round =>
    obtain ⟨k, hk, rfl, hall, hbel⟩ := hrel
    by_cases hlt : k < l.length
    · obtain ⟨g0, rfl⟩ : ∃ g0, a = some ⟨g0, 0, none⟩ := by
        rcases HR.out.cases with ⟨hh, h0, _⟩ | ⟨g0, cap, hh, _⟩
        · rw [h0] at hlt; simp at hlt
        · simp at hh; exact ⟨g0, hh.1⟩
      obtain ⟨x, cs, b', hp, hP, ho⟩ := (HR.out.below good_op hbel).out hlt
      obtain ⟨rfl, rfl⟩ := hP
      have HM := hd (HF.out wr hbel k x hp ())
      have c0 := ho.cell 0 _ rfl
      have c1 := ho.cell 1 _ rfl
      have c2 := ho.cell 2 _ rfl
      have c3 := ho.cell 3 _ rfl
      have c4 := ho.cell 4 _ rfl
      rw [Nat.add_zero] at c0
      unfold Ope.cells ic at HM
      unfold ic at c0 c1 c2 c3 c4
      clear ho
      have hk0 : (0 : Int) ≤ k := by omega
      have hk1 : (k : Int) < l.length := by omega
      cases hg : g x
      · have HA := hd (all_take (fun x => !g x) l k x hp hall.out (by simp [hg]))
        rw [hg] at HM
        clear hg hp
        go_wp2_with (go_at_call 99; refine HM.out.mono ?_; rintro e w1 ⟨rfl, hb1⟩)
        go_roundw
        case rel => exact ⟨k + 1, by omega, by go_num, HA, hbel.trans (hb1.mono hbel.size)⟩
        case measure => simp [intOf]; omega
      · have HA := hd (any_yes g l k x hp hg)
        rw [hg] at HM
        clear hg hp
        go_wp2_with (go_at_call 99; refine HM.out.mono ?_; rintro e w1 ⟨rfl, hb1⟩)
        go_ret
        exact ⟨k, rfl, hd (by rw [HA.out]; simp), hbel.trans (hb1.mono hbel.size)⟩
    · obtain rfl : k = l.length := by omega
      have HA := hd (any_not g l _ rfl hall.out)
      go_wp2
      go_ret
      exact ⟨-1, rfl, hd (by rw [HA.out]; rfl), hbel⟩
theorem hasAllOpen (v : Value) (l : List Ope) (bs : List Nat) (g : Ope → Bool) (B : Nat) (w : World) (hs : l.length ≤ 1048576) (h : Opens w v l bs) (hF : (∀ X, Below w.heap.size w X → ∀ (i : Nat) (x : Ope), l[i]? = some x → ∀ (_ : Unit), Calls Tryz.prog 99 #[.agg x.cells.toArray, .pointer (some ⟨B, 0, none⟩)] X fun e w' => e = .returned (.bool (g x)) ∧ Below X.heap.size X w')) :
    Calls Tryz.prog 98 #[v, .func (.func 99) #[] #[.pointer (some ⟨B, 0, none⟩)]] w fun e w' => e = .returned (.bool (l.any g)) ∧ Below w.heap.size w w' := by
  have H := hd (idxAllOpen v l bs g B w hs h hF)
  obtain ⟨a, c, rfl⟩ : ∃ a c, v = .slice a l.length c := h.slice
  clear h hF
  go_enter Tryz.func98, Tryz.ntmps98
  go_wp2_with (go_at_call 134; fail)
  refine H.out.mono ?_
  rintro e w1 ⟨r, rfl, hr, hb1⟩
  go_wp2
  go_ret
  exact ⟨by rw [← hr.out]; rfl, hb1⟩

set_option maxHeartbeats 1000000 in
theorem idxEndOpen (v : Value) (l : List Ope) (bs : List Nat) (g : Ope → Bool) (B : Nat) (w : World) (hs : l.length ≤ 1048576) (h : Opens w v l bs) (hF : (∀ X, Below w.heap.size w X → ∀ (i : Nat) (x : Ope), l[i]? = some x → ∀ (_ : Unit), Calls Tryz.prog 104 #[.agg x.cells.toArray, .pointer (some ⟨B, 0, none⟩)] X fun e w' => e = .returned (.bool (g x)) ∧ Below X.heap.size X w')) :
    Calls Tryz.prog 134 #[v, .func (.func 104) #[] #[.pointer (some ⟨B, 0, none⟩)]] w fun e w' => ∃ r : Int, e = .returned (.int .i64 r) ∧ Hid (decide (0 ≤ r) = l.any g) ∧ Below w.heap.size w w' := by
  obtain ⟨a, c, rfl⟩ : ∃ a c, v = .slice a l.length c := h.slice
  have HR := hd h
  have HF := hd hF
  clear h hF
  go_enter Tryz.func134, Tryz.ntmps134
  go_wp2_with fail
  go_loopw [8] (fun i wr => ∃ k : Nat, k ≤ l.length ∧ i = .int .i64 k ∧ Hid ((l.take k).all (fun x => !g x) = true) ∧ Below w.heap.size w wr) (fun i _ => l.length - (intOf i).toNat)
  case atStart => exact ⟨0, Nat.zero_le _, rfl, hd rfl, Below.refl _ _⟩
  case round =>
    obtain ⟨k, hk, rfl, hall, hbel⟩ := hrel
    by_cases hlt : k < l.length
    · obtain ⟨g0, rfl⟩ : ∃ g0, a = some ⟨g0, 0, none⟩ := by
        rcases HR.out.cases with ⟨hh, h0, _⟩ | ⟨g0, cap, hh, _⟩
        · rw [h0] at hlt; simp at hlt
        · simp at hh; exact ⟨g0, hh.1⟩
      obtain ⟨x, cs, b', hp, hP, ho⟩ := (HR.out.below good_op hbel).out hlt
      obtain ⟨rfl, rfl⟩ := hP
      have HM := hd (HF.out wr hbel k x hp ())
      have c0 := ho.cell 0 _ rfl
      have c1 := ho.cell 1 _ rfl
      have c2 := ho.cell 2 _ rfl
      have c3 := ho.cell 3 _ rfl
      have c4 := ho.cell 4 _ rfl
      rw [Nat.add_zero] at c0
      unfold Ope.cells ic at HM
      unfold ic at c0 c1 c2 c3 c4
      clear ho
      have hk0 : (0 : Int) ≤ k := by omega
      have hk1 : (k : Int) < l.length := by omega
      cases hg : g x
      · have HA := hd (all_take (fun x => !g x) l k x hp hall.out (by simp [hg]))
        rw [hg] at HM
        clear hg hp
        go_wp2_with (go_at_call 104; refine HM.out.mono ?_; rintro e w1 ⟨rfl, hb1⟩)
        go_roundw
        case rel => exact ⟨k + 1, by omega, by go_num, HA, hbel.trans (hb1.mono hbel.size)⟩
        case measure => simp [intOf]; omega
      · have HA := hd (any_yes g l k x hp hg)
        rw [hg] at HM
        clear hg hp
        go_wp2_with (go_at_call 104; refine HM.out.mono ?_; rintro e w1 ⟨rfl, hb1⟩)
        go_ret
        exact ⟨k, rfl, hd (by rw [HA.out]; simp), hbel.trans (hb1.mono hbel.size)⟩
    · obtain rfl : k = l.length := by omega
      have HA := hd (any_not g l _ rfl hall.out)
      go_wp2
      go_ret
      exact ⟨-1, rfl, hd (by rw [HA.out]; rfl), hbel⟩
theorem hasEndOpen (v : Value) (l : List Ope) (bs : List Nat) (g : Ope → Bool) (B : Nat) (w : World) (hs : l.length ≤ 1048576) (h : Opens w v l bs) (hF : (∀ X, Below w.heap.size w X → ∀ (i : Nat) (x : Ope), l[i]? = some x → ∀ (_ : Unit), Calls Tryz.prog 104 #[.agg x.cells.toArray, .pointer (some ⟨B, 0, none⟩)] X fun e w' => e = .returned (.bool (g x)) ∧ Below X.heap.size X w')) :
    Calls Tryz.prog 98 #[v, .func (.func 104) #[] #[.pointer (some ⟨B, 0, none⟩)]] w fun e w' => e = .returned (.bool (l.any g)) ∧ Below w.heap.size w w' := by
  have H := hd (idxEndOpen v l bs g B w hs h hF)
  obtain ⟨a, c, rfl⟩ : ∃ a c, v = .slice a l.length c := h.slice
  clear h hF
  go_enter Tryz.func98, Tryz.ntmps98
  go_wp2_with (go_at_call 134; fail)
  refine H.out.mono ?_
  rintro e w1 ⟨r, rfl, hr, hb1⟩
  go_wp2
  go_ret
  exact ⟨by rw [← hr.out]; rfl, hb1⟩

set_option maxHeartbeats 1000000 in
theorem idxAllPipe (v : Value) (l : List Pip) (bs : List Nat) (g : Pip → Bool) (B : Nat) (w : World) (hs : l.length ≤ 1048576) (h : Pipes w v l bs) (hF : (∀ X, Below w.heap.size w X → ∀ (i : Nat) (x : Pip), l[i]? = some x → ∀ (z : Value) (b : List Nat) , IntsO X z x.data b → Calls Tryz.prog 103 #[.agg (x.cells z).toArray, .pointer (some ⟨B, 0, none⟩)] X fun e w' => e = .returned (.bool (g x)) ∧ Below X.heap.size X w')) :
    Calls Tryz.prog 137 #[v, .func (.func 103) #[] #[.pointer (some ⟨B, 0, none⟩)]] w fun e w' => ∃ r : Int, e = .returned (.int .i64 r) ∧ Hid (decide (0 ≤ r) = l.any g) ∧ Below w.heap.size w w' := by
  obtain ⟨a, c, rfl⟩ : ∃ a c, v = .slice a l.length c := h.slice
  have HR := hd h
  have HF := hd hF
  clear h hF
  go_enter Tryz.func137, Tryz.ntmps137
  go_wp2_with fail
  go_loopw [8] (fun i wr => ∃ k : Nat, k ≤ l.length ∧ i = .int .i64 k ∧ Hid ((l.take k).all (fun x => !g x) = true) ∧ Below w.heap.size w wr) (fun i _ => l.length - (intOf i).toNat)
  case atStart => exact ⟨0, Nat.zero_le _, rfl, hd rfl, Below.refl _ _⟩
  case round =>
    obtain ⟨k, hk, rfl, hall, hbel⟩ := hrel
    by_cases hlt : k < l.length
    · obtain ⟨g0, rfl⟩ : ∃ g0, a = some ⟨g0, 0, none⟩ := by
        rcases HR.out.cases with ⟨hh, h0, _⟩ | ⟨g0, cap, hh, _⟩
        · rw [h0] at hlt; simp at hlt
        · simp at hh; exact ⟨g0, hh.1⟩
      obtain ⟨x, cs, b', hp, hP, ho⟩ := (HR.out.below good_pi hbel).out hlt
      obtain ⟨z, rfl, hz⟩ := hP
      have HM := hd (HF.out wr hbel k x hp z b' hz)
      obtain ⟨za, zc, rfl⟩ := hz.slice
      have c0 := ho.cell 0 _ rfl
      have c1 := ho.cell 1 _ rfl
      rw [Nat.add_zero] at c0
      unfold Pip.cells ic at HM
      unfold ic at c0
      clear ho hz
      have hk0 : (0 : Int) ≤ k := by omega
      have hk1 : (k : Int) < l.length := by omega
      cases hg : g x
      · have HA := hd (all_take (fun x => !g x) l k x hp hall.out (by simp [hg]))
        rw [hg] at HM
        clear hg hp
        go_wp2_with (go_at_call 103; refine HM.out.mono ?_; rintro e w1 ⟨rfl, hb1⟩)
        go_roundw
        case rel => exact ⟨k + 1, by omega, by go_num, HA, hbel.trans (hb1.mono hbel.size)⟩
        case measure => simp [intOf]; omega
      · have HA := hd (any_yes g l k x hp hg)
        rw [hg] at HM
        clear hg hp
        go_wp2_with (go_at_call 103; refine HM.out.mono ?_; rintro e w1 ⟨rfl, hb1⟩)
        go_ret
        exact ⟨k, rfl, hd (by rw [HA.out]; simp), hbel.trans (hb1.mono hbel.size)⟩
    · obtain rfl : k = l.length := by omega
      have HA := hd (any_not g l _ rfl hall.out)
      go_wp2
      go_ret
      exact ⟨-1, rfl, hd (by rw [HA.out]; rfl), hbel⟩
theorem hasAllPipe (v : Value) (l : List Pip) (bs : List Nat) (g : Pip → Bool) (B : Nat) (w : World) (hs : l.length ≤ 1048576) (h : Pipes w v l bs) (hF : (∀ X, Below w.heap.size w X → ∀ (i : Nat) (x : Pip), l[i]? = some x → ∀ (z : Value) (b : List Nat) , IntsO X z x.data b → Calls Tryz.prog 103 #[.agg (x.cells z).toArray, .pointer (some ⟨B, 0, none⟩)] X fun e w' => e = .returned (.bool (g x)) ∧ Below X.heap.size X w')) :
    Calls Tryz.prog 102 #[v, .func (.func 103) #[] #[.pointer (some ⟨B, 0, none⟩)]] w fun e w' => e = .returned (.bool (l.any g)) ∧ Below w.heap.size w w' := by
  have H := hd (idxAllPipe v l bs g B w hs h hF)
  obtain ⟨a, c, rfl⟩ : ∃ a c, v = .slice a l.length c := h.slice
  clear h hF
  go_enter Tryz.func102, Tryz.ntmps102
  go_wp2_with (go_at_call 137; fail)
  refine H.out.mono ?_
  rintro e w1 ⟨r, rfl, hr, hb1⟩
  go_wp2
  go_ret
  exact ⟨by rw [← hr.out]; rfl, hb1⟩

set_option maxHeartbeats 1000000 in
theorem idxAllFile (v : Value) (l : List Pip) (bs : List Nat) (g : Pip → Bool) (B : Nat) (w : World) (hs : l.length ≤ 1048576) (h : Files w v l bs) (hF : (∀ X, Below w.heap.size w X → ∀ (i : Nat) (x : Pip), l[i]? = some x → ∀ (z : Value) (b : List Nat) , IntsO X z x.data b → Calls Tryz.prog 107 #[.agg (x.cells z).toArray, .pointer (some ⟨B, 0, none⟩)] X fun e w' => e = .returned (.bool (g x)) ∧ Below X.heap.size X w')) :
    Calls Tryz.prog 138 #[v, .func (.func 107) #[] #[.pointer (some ⟨B, 0, none⟩)]] w fun e w' => ∃ r : Int, e = .returned (.int .i64 r) ∧ Hid (decide (0 ≤ r) = l.any g) ∧ Below w.heap.size w w' := by
  obtain ⟨a, c, rfl⟩ : ∃ a c, v = .slice a l.length c := h.slice
  have HR := hd h
  have HF := hd hF
  clear h hF
  go_enter Tryz.func138, Tryz.ntmps138
  go_wp2_with fail
  go_loopw [8] (fun i wr => ∃ k : Nat, k ≤ l.length ∧ i = .int .i64 k ∧ Hid ((l.take k).all (fun x => !g x) = true) ∧ Below w.heap.size w wr) (fun i _ => l.length - (intOf i).toNat)
  case atStart => exact ⟨0, Nat.zero_le _, rfl, hd rfl, Below.refl _ _⟩
  case round =>
    obtain ⟨k, hk, rfl, hall, hbel⟩ := hrel
    by_cases hlt : k < l.length
    · obtain ⟨g0, rfl⟩ : ∃ g0, a = some ⟨g0, 0, none⟩ := by
        rcases HR.out.cases with ⟨hh, h0, _⟩ | ⟨g0, cap, hh, _⟩
        · rw [h0] at hlt; simp at hlt
        · simp at hh; exact ⟨g0, hh.1⟩
      obtain ⟨x, cs, b', hp, hP, ho⟩ := (HR.out.below good_pi hbel).out hlt
      obtain ⟨z, rfl, hz⟩ := hP
      have HM := hd (HF.out wr hbel k x hp z b' hz)
      obtain ⟨za, zc, rfl⟩ := hz.slice
      have c0 := ho.cell 0 _ rfl
      have c1 := ho.cell 1 _ rfl
      rw [Nat.add_zero] at c0
      unfold Pip.cells ic at HM
      unfold ic at c0
      clear ho hz
      have hk0 : (0 : Int) ≤ k := by omega
      have hk1 : (k : Int) < l.length := by omega
      cases hg : g x
      · have HA := hd (all_take (fun x => !g x) l k x hp hall.out (by simp [hg]))
        rw [hg] at HM
        clear hg hp
        go_wp2_with (go_at_call 107; refine HM.out.mono ?_; rintro e w1 ⟨rfl, hb1⟩)
        go_roundw
        case rel => exact ⟨k + 1, by omega, by go_num, HA, hbel.trans (hb1.mono hbel.size)⟩
        case measure => simp [intOf]; omega
      · have HA := hd (any_yes g l k x hp hg)
        rw [hg] at HM
        clear hg hp
        go_wp2_with (go_at_call 107; refine HM.out.mono ?_; rintro e w1 ⟨rfl, hb1⟩)
        go_ret
        exact ⟨k, rfl, hd (by rw [HA.out]; simp), hbel.trans (hb1.mono hbel.size)⟩
    · obtain rfl : k = l.length := by omega
      have HA := hd (any_not g l _ rfl hall.out)
      go_wp2
      go_ret
      exact ⟨-1, rfl, hd (by rw [HA.out]; rfl), hbel⟩
theorem hasAllFile (v : Value) (l : List Pip) (bs : List Nat) (g : Pip → Bool) (B : Nat) (w : World) (hs : l.length ≤ 1048576) (h : Files w v l bs) (hF : (∀ X, Below w.heap.size w X → ∀ (i : Nat) (x : Pip), l[i]? = some x → ∀ (z : Value) (b : List Nat) , IntsO X z x.data b → Calls Tryz.prog 107 #[.agg (x.cells z).toArray, .pointer (some ⟨B, 0, none⟩)] X fun e w' => e = .returned (.bool (g x)) ∧ Below X.heap.size X w')) :
    Calls Tryz.prog 106 #[v, .func (.func 107) #[] #[.pointer (some ⟨B, 0, none⟩)]] w fun e w' => e = .returned (.bool (l.any g)) ∧ Below w.heap.size w w' := by
  have H := hd (idxAllFile v l bs g B w hs h hF)
  obtain ⟨a, c, rfl⟩ : ∃ a c, v = .slice a l.length c := h.slice
  clear h hF
  go_enter Tryz.func106, Tryz.ntmps106
  go_wp2_with (go_at_call 138; fail)
  refine H.out.mono ?_
  rintro e w1 ⟨r, rfl, hr, hb1⟩
  go_wp2
  go_ret
  exact ⟨by rw [← hr.out]; rfl, hb1⟩

set_option maxHeartbeats 1000000 in
theorem idxInt (v : Value) (l : List Int) (g : Int → Bool) (B : Nat) (w : World) (hs : l.length ≤ 1048576) (h : Ints w v l) (hF : (∀ X, Below w.heap.size w X → ∀ (i : Nat) (x : Int), l[i]? = some x → ∀ (_ : Unit), Calls Tryz.prog 159 #[.int .i64 x, .pointer (some ⟨B, 0, none⟩)] X fun e w' => e = .returned (.bool (g x)) ∧ Below X.heap.size X w')) :
    Calls Tryz.prog 161 #[v, .func (.func 159) #[] #[.pointer (some ⟨B, 0, none⟩)]] w fun e w' => ∃ r : Int, e = .returned (.int .i64 r) ∧ Hid (decide (0 ≤ r) = l.any g) ∧ Below w.heap.size w w' := by
  obtain ⟨a, c, rfl⟩ : ∃ a c, v = .slice a l.length c := (by rcases h with ⟨rfl, rfl⟩ | ⟨g0, c0, rfl, _⟩ <;> exact ⟨_, _, rfl⟩)
  have HR := hd h
  have HF := hd hF
  clear h hF
  go_enter Tryz.func161, Tryz.ntmps161
  go_wp2_with fail
  go_loopw [8] (fun i wr => ∃ k : Nat, k ≤ l.length ∧ i = .int .i64 k ∧ Hid ((l.take k).all (fun x => !g x) = true) ∧ Below w.heap.size w wr) (fun i _ => l.length - (intOf i).toNat)
  case atStart => exact ⟨0, Nat.zero_le _, rfl, hd rfl, Below.refl _ _⟩
  case round =>
    obtain ⟨k, hk, rfl, hall, hbel⟩ := hrel
    by_cases hlt : k < l.length
    · obtain ⟨x, hp⟩ : ∃ x, l[k]? = some x := ⟨l[k], by simp [hlt]⟩
      obtain ⟨g0, rfl, c0⟩ : ∃ g0, a = some ⟨g0, 0, none⟩ ∧ wr.cell? ⟨g0, k, none⟩ = some (.int .i64 x) := by
        rcases HR.out.below hbel with ⟨hh, h0⟩ | ⟨g0, cap, hh, _, hcc⟩
        · rw [h0] at hlt; simp at hlt
        · simp at hh; exact ⟨g0, hh.1, hcc k x hp⟩
      have HM := hd (HF.out wr hbel k x hp ())
      have hk0 : (0 : Int) ≤ k := by omega
      have hk1 : (k : Int) < l.length := by omega
      cases hg : g x
      · have HA := hd (all_take (fun x => !g x) l k x hp hall.out (by simp [hg]))
        rw [hg] at HM
        clear hg hp
        go_wp2_with (go_at_call 159; refine HM.out.mono ?_; rintro e w1 ⟨rfl, hb1⟩)
        go_roundw
        case rel => exact ⟨k + 1, by omega, by go_num, HA, hbel.trans (hb1.mono hbel.size)⟩
        case measure => simp [intOf]; omega
      · have HA := hd (any_yes g l k x hp hg)
        rw [hg] at HM
        clear hg hp
        go_wp2_with (go_at_call 159; refine HM.out.mono ?_; rintro e w1 ⟨rfl, hb1⟩)
        go_ret
        exact ⟨k, rfl, hd (by rw [HA.out]; simp), hbel.trans (hb1.mono hbel.size)⟩
    · obtain rfl : k = l.length := by omega
      have HA := hd (any_not g l _ rfl hall.out)
      go_wp2
      go_ret
      exact ⟨-1, rfl, hd (by rw [HA.out]; rfl), hbel⟩
theorem hasInt (v : Value) (l : List Int) (g : Int → Bool) (B : Nat) (w : World) (hs : l.length ≤ 1048576) (h : Ints w v l) (hF : (∀ X, Below w.heap.size w X → ∀ (i : Nat) (x : Int), l[i]? = some x → ∀ (_ : Unit), Calls Tryz.prog 159 #[.int .i64 x, .pointer (some ⟨B, 0, none⟩)] X fun e w' => e = .returned (.bool (g x)) ∧ Below X.heap.size X w')) :
    Calls Tryz.prog 158 #[v, .func (.func 159) #[] #[.pointer (some ⟨B, 0, none⟩)]] w fun e w' => e = .returned (.bool (l.any g)) ∧ Below w.heap.size w w' := by
  have H := hd (idxInt v l g B w hs h hF)
  obtain ⟨a, c, rfl⟩ : ∃ a c, v = .slice a l.length c := (by rcases h with ⟨rfl, rfl⟩ | ⟨g0, c0, rfl, _⟩ <;> exact ⟨_, _, rfl⟩)
  clear h hF
  go_enter Tryz.func158, Tryz.ntmps158
  go_wp2_with (go_at_call 161; fail)
  refine H.out.mono ?_
  rintro e w1 ⟨r, rfl, hr, hb1⟩
  go_wp2
  go_ret
  exact ⟨by rw [← hr.out]; rfl, hb1⟩

theorem cloOpens (x : Ope) (C : Nat) (q : Bool) (B : Nat) (w : World) (hB : B < w.heap.size) (hc : w.cell? ⟨B, 0, none⟩ = some (.func (.func 42) #[] #[.pointer (some ⟨C, 0, none⟩)]))
    (hF : ∀ X, Below w.heap.size w X → Calls Tryz.prog 42 #[.agg x.cells.toArray, .pointer (some ⟨C, 0, none⟩)] X fun e w' => e = .returned (.bool q) ∧ Below X.heap.size X w') :
    Calls Tryz.prog 99 #[.agg x.cells.toArray, .pointer (some ⟨B, 0, none⟩)] w fun e w' => e = .returned (.bool (!q)) ∧ Below w.heap.size w w' := by
  have hb0 : Below w.heap.size w (w.alloc (.cells x.cells.toArray 66)) := (Below.refl _ w).alloc (Nat.le_refl _) _
  have H := hd (hF _ hb0)
  have hc' := (hb0.cell (p := ⟨B, 0, none⟩) hB).trans hc
  unfold Ope.cells ic at *
  go_enter Tryz.func99, Tryz.ntmps99
  go_wp2_with (go_at_call 42; refine H.out.mono ?_; rintro e w1 ⟨rfl, hb1⟩)
  go_ret
  exact ⟨rfl, hb0.trans (hb1.mono hb0.size)⟩
theorem allOpens (v : Value) (l : List Ope) (bs : List Nat) (g : Ope → Bool) (C : Nat) (w : World) (hs : l.length ≤ 1048576) (h : Opens w v l bs) (hF : (∀ X, Below w.heap.size w X → ∀ (i : Nat) (x : Ope), l[i]? = some x → ∀ (_ : Unit), Calls Tryz.prog 42 #[.agg x.cells.toArray, .pointer (some ⟨C, 0, none⟩)] X fun e w' => e = .returned (.bool (g x)) ∧ Below X.heap.size X w')) :
    Calls Tryz.prog 41 #[v, (.func (.func 42) #[] #[.pointer (some ⟨C, 0, none⟩)])] w fun e w' => e = .returned (.bool (l.all g)) ∧ Below w.heap.size w w' := by
  have hb0 : Below w.heap.size w (w.alloc (.cells #[(.func (.func 42) #[] #[.pointer (some ⟨C, 0, none⟩)])] 68)) := (Below.refl _ w).alloc (Nat.le_refl _) _
  have H := hd (hasAllOpen v l bs (fun x => !g x) w.heap.size (w.alloc (.cells #[(.func (.func 42) #[] #[.pointer (some ⟨C, 0, none⟩)])] 68)) hs (h.below good_op hb0) (fun X hX i x hx _ => cloOpens x C (g x) w.heap.size X (Nat.lt_of_lt_of_le (by simp) hX.size) ((hX.cell (p := ⟨w.heap.size, 0, none⟩) (by simp)).trans (by simp)) fun Y hY => hF Y (hb0.trans ((hX.trans (hY.mono hX.size)).mono hb0.size)) i x hx ()))
  obtain ⟨a, c, rfl⟩ : ∃ a c, v = .slice a l.length c := h.slice
  have HQ := hd (all_any_not g l)
  obtain ⟨q, hq⟩ : ∃ q, (l.any fun x => !g x) = q := ⟨_, rfl⟩
  rw [hq] at H HQ
  rw [← HQ.out]
  clear h hF hq
  go_enter Tryz.func41, Tryz.ntmps41
  go_wp2_with (go_at_call 98; refine H.out.mono ?_; rintro e w1 ⟨rfl, hb1⟩)
  go_ret
  exact ⟨rfl, hb0.trans (hb1.mono hb0.size)⟩

theorem cloPipes (x : Pip) (za : Option Addr) (zn zc : Nat) (C : Nat) (q : Bool) (B : Nat) (w : World) (hB : B < w.heap.size) (hc : w.cell? ⟨B, 0, none⟩ = some (.func (.func 45) #[] #[.pointer (some ⟨C, 0, none⟩)]))
    (hF : ∀ X, Below w.heap.size w X → Calls Tryz.prog 45 #[.agg (x.cells (.slice za zn zc)).toArray, .pointer (some ⟨C, 0, none⟩)] X fun e w' => e = .returned (.bool q) ∧ Below X.heap.size X w') :
    Calls Tryz.prog 103 #[.agg (x.cells (.slice za zn zc)).toArray, .pointer (some ⟨B, 0, none⟩)] w fun e w' => e = .returned (.bool (!q)) ∧ Below w.heap.size w w' := by
  have hb0 : Below w.heap.size w (w.alloc (.cells (x.cells (.slice za zn zc)).toArray 71)) := (Below.refl _ w).alloc (Nat.le_refl _) _
  have H := hd (hF _ hb0)
  have hc' := (hb0.cell (p := ⟨B, 0, none⟩) hB).trans hc
  unfold Pip.cells ic at *
  go_enter Tryz.func103, Tryz.ntmps103
  go_wp2_with (go_at_call 45; refine H.out.mono ?_; rintro e w1 ⟨rfl, hb1⟩)
  go_ret
  exact ⟨rfl, hb0.trans (hb1.mono hb0.size)⟩
theorem allPipes (v : Value) (l : List Pip) (bs : List Nat) (g : Pip → Bool) (C : Nat) (w : World) (hs : l.length ≤ 1048576) (h : Pipes w v l bs) (hF : (∀ X, Below w.heap.size w X → ∀ (i : Nat) (x : Pip), l[i]? = some x → ∀ (z : Value) (b : List Nat) , IntsO X z x.data b → Calls Tryz.prog 45 #[.agg (x.cells z).toArray, .pointer (some ⟨C, 0, none⟩)] X fun e w' => e = .returned (.bool (g x)) ∧ Below X.heap.size X w')) :
    Calls Tryz.prog 44 #[v, (.func (.func 45) #[] #[.pointer (some ⟨C, 0, none⟩)])] w fun e w' => e = .returned (.bool (l.all g)) ∧ Below w.heap.size w w' := by
  have hb0 : Below w.heap.size w (w.alloc (.cells #[(.func (.func 45) #[] #[.pointer (some ⟨C, 0, none⟩)])] 73)) := (Below.refl _ w).alloc (Nat.le_refl _) _
  have H := hd (hasAllPipe v l bs (fun x => !g x) w.heap.size (w.alloc (.cells #[(.func (.func 45) #[] #[.pointer (some ⟨C, 0, none⟩)])] 73)) hs (h.below good_pi hb0) (fun X hX i x hx z b hz => by obtain ⟨za, zc, rfl⟩ := hz.slice; exact cloPipes x za _ zc C (g x) w.heap.size X (Nat.lt_of_lt_of_le (by simp) hX.size) ((hX.cell (p := ⟨w.heap.size, 0, none⟩) (by simp)).trans (by simp)) fun Y hY => hF Y (hb0.trans ((hX.trans (hY.mono hX.size)).mono hb0.size)) i x hx _ b (hz.below hY)))
  obtain ⟨a, c, rfl⟩ : ∃ a c, v = .slice a l.length c := h.slice
  have HQ := hd (all_any_not g l)
  obtain ⟨q, hq⟩ : ∃ q, (l.any fun x => !g x) = q := ⟨_, rfl⟩
  rw [hq] at H HQ
  rw [← HQ.out]
  clear h hF hq
  go_enter Tryz.func44, Tryz.ntmps44
  go_wp2_with (go_at_call 102; refine H.out.mono ?_; rintro e w1 ⟨rfl, hb1⟩)
  go_ret
  exact ⟨rfl, hb0.trans (hb1.mono hb0.size)⟩

theorem cloFiles (x : Pip) (za : Option Addr) (zn zc : Nat) (q : Bool) (B : Nat) (w : World) (hB : B < w.heap.size) (hc : w.cell? ⟨B, 0, none⟩ = some (.func (.func 48) #[] #[]))
    (hF : ∀ X, Below w.heap.size w X → Calls Tryz.prog 48 #[.agg (x.cells (.slice za zn zc)).toArray] X fun e w' => e = .returned (.bool q) ∧ Below X.heap.size X w') :
    Calls Tryz.prog 107 #[.agg (x.cells (.slice za zn zc)).toArray, .pointer (some ⟨B, 0, none⟩)] w fun e w' => e = .returned (.bool (!q)) ∧ Below w.heap.size w w' := by
  have hb0 : Below w.heap.size w (w.alloc (.cells (x.cells (.slice za zn zc)).toArray 76)) := (Below.refl _ w).alloc (Nat.le_refl _) _
  have H := hd (hF _ hb0)
  have hc' := (hb0.cell (p := ⟨B, 0, none⟩) hB).trans hc
  unfold Pip.cells ic at *
  go_enter Tryz.func107, Tryz.ntmps107
  go_wp2_with (go_at_call 48; refine H.out.mono ?_; rintro e w1 ⟨rfl, hb1⟩)
  go_ret
  exact ⟨rfl, hb0.trans (hb1.mono hb0.size)⟩
theorem allFiles (v : Value) (l : List Pip) (bs : List Nat) (g : Pip → Bool) (w : World) (hs : l.length ≤ 1048576) (h : Files w v l bs) (hF : (∀ X, Below w.heap.size w X → ∀ (i : Nat) (x : Pip), l[i]? = some x → ∀ (z : Value) (b : List Nat) , IntsO X z x.data b → Calls Tryz.prog 48 #[.agg (x.cells z).toArray] X fun e w' => e = .returned (.bool (g x)) ∧ Below X.heap.size X w')) :
    Calls Tryz.prog 47 #[v, (.func (.func 48) #[] #[])] w fun e w' => e = .returned (.bool (l.all g)) ∧ Below w.heap.size w w' := by
  have hb0 : Below w.heap.size w (w.alloc (.cells #[(.func (.func 48) #[] #[])] 77)) := (Below.refl _ w).alloc (Nat.le_refl _) _
  have H := hd (hasAllFile v l bs (fun x => !g x) w.heap.size (w.alloc (.cells #[(.func (.func 48) #[] #[])] 77)) hs (h.below good_pi hb0) (fun X hX i x hx z b hz => by obtain ⟨za, zc, rfl⟩ := hz.slice; exact cloFiles x za _ zc (g x) w.heap.size X (Nat.lt_of_lt_of_le (by simp) hX.size) ((hX.cell (p := ⟨w.heap.size, 0, none⟩) (by simp)).trans (by simp)) fun Y hY => hF Y (hb0.trans ((hX.trans (hY.mono hX.size)).mono hb0.size)) i x hx _ b (hz.below hY)))
  obtain ⟨a, c, rfl⟩ : ∃ a c, v = .slice a l.length c := h.slice
  have HQ := hd (all_any_not g l)
  obtain ⟨q, hq⟩ : ∃ q, (l.any fun x => !g x) = q := ⟨_, rfl⟩
  rw [hq] at H HQ
  rw [← HQ.out]
  clear h hF hq
  go_enter Tryz.func47, Tryz.ntmps47
  go_wp2_with (go_at_call 106; refine H.out.mono ?_; rintro e w1 ⟨rfl, hb1⟩)
  go_ret
  exact ⟨rfl, hb0.trans (hb1.mono hb0.size)⟩

theorem cloFds (x : Int) (C : Nat) (q : Bool) (B : Nat) (w : World) (hB : B < w.heap.size) (hc : w.cell? ⟨B, 0, none⟩ = some (.func (.func 151) #[] #[.pointer (some ⟨C, 0, none⟩)]))
    (hF : ∀ X, Below w.heap.size w X → Calls Tryz.prog 151 #[.int .i64 x, .pointer (some ⟨C, 0, none⟩)] X fun e w' => e = .returned (.bool q) ∧ Below X.heap.size X w') :
    Calls Tryz.prog 159 #[.int .i64 x, .pointer (some ⟨B, 0, none⟩)] w fun e w' => e = .returned (.bool (!q)) ∧ Below w.heap.size w w' := by
  have H := hd (hF w (Below.refl _ _))
  go_enter Tryz.func159, Tryz.ntmps159
  go_wp2_with (go_at_call 151; refine H.out.mono ?_; rintro e w1 ⟨rfl, hb1⟩)
  go_ret
  exact ⟨rfl, hb1⟩
theorem allFds (v : Value) (l : List Int) (g : Int → Bool) (C : Nat) (w : World) (hs : l.length ≤ 1048576) (h : Ints w v l) (hF : (∀ X, Below w.heap.size w X → ∀ (i : Nat) (x : Int), l[i]? = some x → ∀ (_ : Unit), Calls Tryz.prog 151 #[.int .i64 x, .pointer (some ⟨C, 0, none⟩)] X fun e w' => e = .returned (.bool (g x)) ∧ Below X.heap.size X w')) :
    Calls Tryz.prog 150 #[v, (.func (.func 151) #[] #[.pointer (some ⟨C, 0, none⟩)])] w fun e w' => e = .returned (.bool (l.all g)) ∧ Below w.heap.size w w' := by
  have hb0 : Below w.heap.size w (w.alloc (.cells #[(.func (.func 151) #[] #[.pointer (some ⟨C, 0, none⟩)])] 102)) := (Below.refl _ w).alloc (Nat.le_refl _) _
  have H := hd (hasInt v l (fun x => !g x) w.heap.size (w.alloc (.cells #[(.func (.func 151) #[] #[.pointer (some ⟨C, 0, none⟩)])] 102)) hs (h.below hb0) (fun X hX i x hx _ => cloFds x C (g x) w.heap.size X (Nat.lt_of_lt_of_le (by simp) hX.size) ((hX.cell (p := ⟨w.heap.size, 0, none⟩) (by simp)).trans (by simp)) fun Y hY => hF Y (hb0.trans ((hX.trans (hY.mono hX.size)).mono hb0.size)) i x hx ()))
  obtain ⟨a, c, rfl⟩ : ∃ a c, v = .slice a l.length c := (by rcases h with ⟨rfl, rfl⟩ | ⟨g0, c0, rfl, _⟩ <;> exact ⟨_, _, rfl⟩)
  have HQ := hd (all_any_not g l)
  obtain ⟨q, hq⟩ : ∃ q, (l.any fun x => !g x) = q := ⟨_, rfl⟩
  rw [hq] at H HQ
  rw [← HQ.out]
  clear h hF hq
  go_enter Tryz.func150, Tryz.ntmps150
  go_wp2_with (go_at_call 158; refine H.out.mono ?_; rintro e w1 ⟨rfl, hb1⟩)
  go_ret
  exact ⟨rfl, hb0.trans (hb1.mono hb0.size)⟩

theorem cloOnly (x : Int) (C : Nat) (q : Bool) (B : Nat) (w : World) (hB : B < w.heap.size) (hc : w.cell? ⟨B, 0, none⟩ = some (.func (.func 160) #[] #[.pointer (some ⟨C, 0, none⟩)]))
    (hF : ∀ X, Below w.heap.size w X → Calls Tryz.prog 160 #[.int .i64 x, .pointer (some ⟨C, 0, none⟩)] X fun e w' => e = .returned (.bool q) ∧ Below X.heap.size X w') :
    Calls Tryz.prog 159 #[.int .i64 x, .pointer (some ⟨B, 0, none⟩)] w fun e w' => e = .returned (.bool (!q)) ∧ Below w.heap.size w w' := by
  have H := hd (hF w (Below.refl _ _))
  go_enter Tryz.func159, Tryz.ntmps159
  go_wp2_with (go_at_call 160; refine H.out.mono ?_; rintro e w1 ⟨rfl, hb1⟩)
  go_ret
  exact ⟨rfl, hb1⟩
theorem allOnly (v : Value) (l : List Int) (g : Int → Bool) (C : Nat) (w : World) (hs : l.length ≤ 1048576) (h : Ints w v l) (hF : (∀ X, Below w.heap.size w X → ∀ (i : Nat) (x : Int), l[i]? = some x → ∀ (_ : Unit), Calls Tryz.prog 160 #[.int .i64 x, .pointer (some ⟨C, 0, none⟩)] X fun e w' => e = .returned (.bool (g x)) ∧ Below X.heap.size X w')) :
    Calls Tryz.prog 150 #[v, (.func (.func 160) #[] #[.pointer (some ⟨C, 0, none⟩)])] w fun e w' => e = .returned (.bool (l.all g)) ∧ Below w.heap.size w w' := by
  have hb0 : Below w.heap.size w (w.alloc (.cells #[(.func (.func 160) #[] #[.pointer (some ⟨C, 0, none⟩)])] 102)) := (Below.refl _ w).alloc (Nat.le_refl _) _
  have H := hd (hasInt v l (fun x => !g x) w.heap.size (w.alloc (.cells #[(.func (.func 160) #[] #[.pointer (some ⟨C, 0, none⟩)])] 102)) hs (h.below hb0) (fun X hX i x hx _ => cloOnly x C (g x) w.heap.size X (Nat.lt_of_lt_of_le (by simp) hX.size) ((hX.cell (p := ⟨w.heap.size, 0, none⟩) (by simp)).trans (by simp)) fun Y hY => hF Y (hb0.trans ((hX.trans (hY.mono hX.size)).mono hb0.size)) i x hx ()))
  obtain ⟨a, c, rfl⟩ : ∃ a c, v = .slice a l.length c := (by rcases h with ⟨rfl, rfl⟩ | ⟨g0, c0, rfl, _⟩ <;> exact ⟨_, _, rfl⟩)
  have HQ := hd (all_any_not g l)
  obtain ⟨q, hq⟩ : ∃ q, (l.any fun x => !g x) = q := ⟨_, rfl⟩
  rw [hq] at H HQ
  rw [← HQ.out]
  clear h hF hq
  go_enter Tryz.func150, Tryz.ntmps150
  go_wp2_with (go_at_call 158; refine H.out.mono ?_; rintro e w1 ⟨rfl, hb1⟩)
  go_ret
  exact ⟨rfl, hb0.trans (hb1.mono hb0.size)⟩

end Go.Proofs.YtighnfeifkgajaaGreat.ImB
