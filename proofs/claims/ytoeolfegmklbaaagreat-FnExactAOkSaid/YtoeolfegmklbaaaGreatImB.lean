/- What impl's all answers of lists of Opens, pipes, files and numbers, whatever is asked of each. Condition: none. -/
import Derived.Test.YtoeolfegmklbaaaGreatMg07
import Derived.Test.YtoeolfegmklbaaaGreatMg08
import Derived.Deep.RegionWith
import Derived.BigRegion
namespace Go.Proofs.YtoeolfegmklbaaaGreat.ImB
open Go.RowKit Go.Deep Num InsC InsO ProgC IntC RowC PrgL UnC PlcM BootA
set_option maxRecDepth 100000
set_option linter.unusedVariables false
set_option linter.unusedSimpArgs false

theorem any_not {α : Type} (f : α → Bool) (l : List α) (k : Nat) (h : l.length = k) (ha : (l.take k).all (fun x => !f x) = true) : l.any f = false := by
 rw [← h, List.take_length] at ha
 rw [List.any_eq_false]
 intro x hx
 have := List.all_eq_true.1 ha x hx
 simpa using this
theorem any_yes {α : Type} (f : α → Bool) (l : List α) (k : Nat) (x : α) (h : l[k]? = some x) (hf : f x = true) : l.any f = true := List.any_eq_true.2 ⟨x, List.mem_of_getElem? h, hf⟩
theorem all_any_not {α : Type} (g : α → Bool) (l : List α) : (!(l.any fun x => !g x)) = l.all g := by
 induction l with
 | nil => rfl
 | cons x l ih => rw [List.any_cons, List.all_cons, ← ih]; cases g x <;> simp

set_option maxHeartbeats 1000000 in
theorem idxAllOpen (v : Value) (l : List Ope) (bs : List Nat) (g : Ope → Bool) (B : Nat) (w : World) (hs : l.length ≤ 1048576) (h : Opens w v l bs) (hF : (∀ X, Below w.heap.size w X → ∀ (i : Nat) (x : Ope), l[i]? = some x → ∀ (_ : Unit), Calls Tryz.prog 233 #[.agg x.cells.toArray, .pointer (some ⟨B, 0, none⟩)] X fun e w' => e = .returned (.bool (g x)) ∧ Below X.heap.size X w')) :
  Calls Tryz.prog 275 #[v, .func (.func 233) #[] #[.pointer (some ⟨B, 0, none⟩)]] w fun e w' => ∃ r : Int, e = .returned (.int .i64 r) ∧ Hid (decide (0 ≤ r) = l.any g) ∧ Below w.heap.size w w' := by
 obtain ⟨a, c, rfl⟩ : ∃ a c, v = .slice a l.length c := h.slice
 have HR := hd h
 have HF := hd hF
 clear h hF
 go_enter Tryz.func275, Tryz.ntmps275
 go_wp2_with fail
 go_loopw [8] (fun i wr => ∃ k : Nat, k ≤ l.length ∧ i = .int .i64 k ∧ Hid ((l.take k).all (fun x => !g x) = true) ∧ Below w.heap.size w wr) (fun i _ => l.length - (intOf i).toNat)
 case atStart => exact ⟨0, Nat.zero_le _, rfl, hd rfl, Below.refl _ _⟩
 case round =>
  obtain ⟨k, hk, rfl, hall, hbel⟩ := hrel
  by_cases hlt : k < l.length
  ·obtain ⟨g0, rfl⟩ : ∃ g0, a = some ⟨g0, 0, none⟩ := by
    rcases HR.out.cases with ⟨hh, h0, _⟩ | ⟨g0, cap, hh, _⟩
    ·rw [h0] at hlt; simp at hlt
    ·simp at hh; exact ⟨g0, hh.1⟩
   obtain ⟨x, cs, b', hp, hP, ho⟩ := (HR.out.below good_op hbel).out hlt
   obtain ⟨rfl, rfl⟩ := hP
   have HM := hd (HF.out wr hbel k x hp ())
   have c0 := ho.cell 0 _ rfl
   have c1 := ho.cell 1 _ rfl
   have c2 := ho.cell 2 _ rfl
   have c3 := ho.cell 3 _ rfl
   have c4 := ho.cell 4 _ rfl
   rw [Nat.add_zero] at c0
   unfold Ope.cells ic at HM
   unfold ic at c0 c1 c2 c3 c4
   clear ho
   have hk0 : (0 : Int) ≤ k := by omega
   have hk1 : (k : Int) < l.length := by omega
   cases hg : g x
   ·have HA := hd (all_take (fun x => !g x) l k x hp hall.out (by simp [hg]))
    rw [hg] at HM
    clear hg hp
    go_wp2_with (go_at_call 233; refine HM.out.mono ?_; rintro e w1 ⟨rfl, hb1⟩)
    go_roundw
    case rel => exact ⟨k + 1, by omega, by go_num, HA, hbel.trans (hb1.mono hbel.size)⟩
    case measure => simp [intOf]; omega
   ·have HA := hd (any_yes g l k x hp hg)
    rw [hg] at HM
    clear hg hp
    go_wp2_with (go_at_call 233; refine HM.out.mono ?_; rintro e w1 ⟨rfl, hb1⟩)
    go_ret
    exact ⟨k, rfl, hd (by rw [HA.out]; simp), hbel.trans (hb1.mono hbel.size)⟩
  ·obtain rfl : k = l.length := by omega
   have HA := hd (any_not g l _ rfl hall.out)
   go_wp2
   go_ret
   exact ⟨-1, rfl, hd (by rw [HA.out]; rfl), hbel⟩
theorem hasAllOpen (v : Value) (l : List Ope) (bs : List Nat) (g : Ope → Bool) (B : Nat) (w : World) (hs : l.length ≤ 1048576) (h : Opens w v l bs) (hF : (∀ X, Below w.heap.size w X → ∀ (i : Nat) (x : Ope), l[i]? = some x → ∀ (_ : Unit), Calls Tryz.prog 233 #[.agg x.cells.toArray, .pointer (some ⟨B, 0, none⟩)] X fun e w' => e = .returned (.bool (g x)) ∧ Below X.heap.size X w')) :
  Calls Tryz.prog 232 #[v, .func (.func 233) #[] #[.pointer (some ⟨B, 0, none⟩)]] w fun e w' => e = .returned (.bool (l.any g)) ∧ Below w.heap.size w w' := by
 have H := hd (idxAllOpen v l bs g B w hs h hF)
 obtain ⟨a, c, rfl⟩ : ∃ a c, v = .slice a l.length c := h.slice
 clear h hF
 go_enter Tryz.func232, Tryz.ntmps232
 go_wp2_with (go_at_call 275; fail)
 refine H.out.mono ?_
 rintro e w1 ⟨r, rfl, hr, hb1⟩
 go_wp2
 go_ret
 exact ⟨by rw [← hr.out]; rfl, hb1⟩

set_option maxHeartbeats 1000000 in
theorem idxEndOpen (v : Value) (l : List Ope) (bs : List Nat) (g : Ope → Bool) (B : Nat) (w : World) (hs : l.length ≤ 1048576) (h : Opens w v l bs) (hF : (∀ X, Below w.heap.size w X → ∀ (i : Nat) (x : Ope), l[i]? = some x → ∀ (_ : Unit), Calls Tryz.prog 238 #[.agg x.cells.toArray, .pointer (some ⟨B, 0, none⟩)] X fun e w' => e = .returned (.bool (g x)) ∧ Below X.heap.size X w')) :
  Calls Tryz.prog 275 #[v, .func (.func 238) #[] #[.pointer (some ⟨B, 0, none⟩)]] w fun e w' => ∃ r : Int, e = .returned (.int .i64 r) ∧ Hid (decide (0 ≤ r) = l.any g) ∧ Below w.heap.size w w' := by
 obtain ⟨a, c, rfl⟩ : ∃ a c, v = .slice a l.length c := h.slice
 have HR := hd h
 have HF := hd hF
 clear h hF
 go_enter Tryz.func275, Tryz.ntmps275
 go_wp2_with fail
 go_loopw [8] (fun i wr => ∃ k : Nat, k ≤ l.length ∧ i = .int .i64 k ∧ Hid ((l.take k).all (fun x => !g x) = true) ∧ Below w.heap.size w wr) (fun i _ => l.length - (intOf i).toNat)
 case atStart => exact ⟨0, Nat.zero_le _, rfl, hd rfl, Below.refl _ _⟩
 case round =>
  obtain ⟨k, hk, rfl, hall, hbel⟩ := hrel
  by_cases hlt : k < l.length
  ·obtain ⟨g0, rfl⟩ : ∃ g0, a = some ⟨g0, 0, none⟩ := by
    rcases HR.out.cases with ⟨hh, h0, _⟩ | ⟨g0, cap, hh, _⟩
    ·rw [h0] at hlt; simp at hlt
    ·simp at hh; exact ⟨g0, hh.1⟩
   obtain ⟨x, cs, b', hp, hP, ho⟩ := (HR.out.below good_op hbel).out hlt
   obtain ⟨rfl, rfl⟩ := hP
   have HM := hd (HF.out wr hbel k x hp ())
   have c0 := ho.cell 0 _ rfl
   have c1 := ho.cell 1 _ rfl
   have c2 := ho.cell 2 _ rfl
   have c3 := ho.cell 3 _ rfl
   have c4 := ho.cell 4 _ rfl
   rw [Nat.add_zero] at c0
   unfold Ope.cells ic at HM
   unfold ic at c0 c1 c2 c3 c4
   clear ho
   have hk0 : (0 : Int) ≤ k := by omega
   have hk1 : (k : Int) < l.length := by omega
   cases hg : g x
   ·have HA := hd (all_take (fun x => !g x) l k x hp hall.out (by simp [hg]))
    rw [hg] at HM
    clear hg hp
    go_wp2_with (go_at_call 238; refine HM.out.mono ?_; rintro e w1 ⟨rfl, hb1⟩)
    go_roundw
    case rel => exact ⟨k + 1, by omega, by go_num, HA, hbel.trans (hb1.mono hbel.size)⟩
    case measure => simp [intOf]; omega
   ·have HA := hd (any_yes g l k x hp hg)
    rw [hg] at HM
    clear hg hp
    go_wp2_with (go_at_call 238; refine HM.out.mono ?_; rintro e w1 ⟨rfl, hb1⟩)
    go_ret
    exact ⟨k, rfl, hd (by rw [HA.out]; simp), hbel.trans (hb1.mono hbel.size)⟩
  ·obtain rfl : k = l.length := by omega
   have HA := hd (any_not g l _ rfl hall.out)
   go_wp2
   go_ret
   exact ⟨-1, rfl, hd (by rw [HA.out]; rfl), hbel⟩
theorem hasEndOpen (v : Value) (l : List Ope) (bs : List Nat) (g : Ope → Bool) (B : Nat) (w : World) (hs : l.length ≤ 1048576) (h : Opens w v l bs) (hF : (∀ X, Below w.heap.size w X → ∀ (i : Nat) (x : Ope), l[i]? = some x → ∀ (_ : Unit), Calls Tryz.prog 238 #[.agg x.cells.toArray, .pointer (some ⟨B, 0, none⟩)] X fun e w' => e = .returned (.bool (g x)) ∧ Below X.heap.size X w')) :
  Calls Tryz.prog 232 #[v, .func (.func 238) #[] #[.pointer (some ⟨B, 0, none⟩)]] w fun e w' => e = .returned (.bool (l.any g)) ∧ Below w.heap.size w w' := by
 have H := hd (idxEndOpen v l bs g B w hs h hF)
 obtain ⟨a, c, rfl⟩ : ∃ a c, v = .slice a l.length c := h.slice
 clear h hF
 go_enter Tryz.func232, Tryz.ntmps232
 go_wp2_with (go_at_call 275; fail)
 refine H.out.mono ?_
 rintro e w1 ⟨r, rfl, hr, hb1⟩
 go_wp2
 go_ret
 exact ⟨by rw [← hr.out]; rfl, hb1⟩

set_option maxHeartbeats 1000000 in
theorem idxAllPipe (v : Value) (l : List Pip) (bs : List Nat) (g : Pip → Bool) (B : Nat) (w : World) (hs : l.length ≤ 1048576) (h : Pipes w v l bs) (hF : (∀ X, Below w.heap.size w X → ∀ (i : Nat) (x : Pip), l[i]? = some x → ∀ (z : Value) (b : List Nat) , IntsO X z x.data b → Calls Tryz.prog 237 #[.agg (x.cells z).toArray, .pointer (some ⟨B, 0, none⟩)] X fun e w' => e = .returned (.bool (g x)) ∧ Below X.heap.size X w')) :
  Calls Tryz.prog 278 #[v, .func (.func 237) #[] #[.pointer (some ⟨B, 0, none⟩)]] w fun e w' => ∃ r : Int, e = .returned (.int .i64 r) ∧ Hid (decide (0 ≤ r) = l.any g) ∧ Below w.heap.size w w' := by
 obtain ⟨a, c, rfl⟩ : ∃ a c, v = .slice a l.length c := h.slice
 have HR := hd h
 have HF := hd hF
 clear h hF
 go_enter Tryz.func278, Tryz.ntmps278
 go_wp2_with fail
 go_loopw [8] (fun i wr => ∃ k : Nat, k ≤ l.length ∧ i = .int .i64 k ∧ Hid ((l.take k).all (fun x => !g x) = true) ∧ Below w.heap.size w wr) (fun i _ => l.length - (intOf i).toNat)
 case atStart => exact ⟨0, Nat.zero_le _, rfl, hd rfl, Below.refl _ _⟩
 case round =>
  obtain ⟨k, hk, rfl, hall, hbel⟩ := hrel
  by_cases hlt : k < l.length
  ·obtain ⟨g0, rfl⟩ : ∃ g0, a = some ⟨g0, 0, none⟩ := by
    rcases HR.out.cases with ⟨hh, h0, _⟩ | ⟨g0, cap, hh, _⟩
    ·rw [h0] at hlt; simp at hlt
    ·simp at hh; exact ⟨g0, hh.1⟩
   obtain ⟨x, cs, b', hp, hP, ho⟩ := (HR.out.below good_pi hbel).out hlt
   obtain ⟨z, rfl, hz⟩ := hP
   have HM := hd (HF.out wr hbel k x hp z b' hz)
   obtain ⟨za, zc, rfl⟩ := hz.slice
   have c0 := ho.cell 0 _ rfl
   have c1 := ho.cell 1 _ rfl
   rw [Nat.add_zero] at c0
   unfold Pip.cells ic at HM
   unfold ic at c0
   clear ho hz
   have hk0 : (0 : Int) ≤ k := by omega
   have hk1 : (k : Int) < l.length := by omega
   cases hg : g x
   ·have HA := hd (all_take (fun x => !g x) l k x hp hall.out (by simp [hg]))
    rw [hg] at HM
    clear hg hp
    go_wp2_with (go_at_call 237; refine HM.out.mono ?_; rintro e w1 ⟨rfl, hb1⟩)
    go_roundw
    case rel => exact ⟨k + 1, by omega, by go_num, HA, hbel.trans (hb1.mono hbel.size)⟩
    case measure => simp [intOf]; omega
   ·have HA := hd (any_yes g l k x hp hg)
    rw [hg] at HM
    clear hg hp
    go_wp2_with (go_at_call 237; refine HM.out.mono ?_; rintro e w1 ⟨rfl, hb1⟩)
    go_ret
    exact ⟨k, rfl, hd (by rw [HA.out]; simp), hbel.trans (hb1.mono hbel.size)⟩
  ·obtain rfl : k = l.length := by omega
   have HA := hd (any_not g l _ rfl hall.out)
   go_wp2
   go_ret
   exact ⟨-1, rfl, hd (by rw [HA.out]; rfl), hbel⟩
theorem hasAllPipe (v : Value) (l : List Pip) (bs : List Nat) (g : Pip → Bool) (B : Nat) (w : World) (hs : l.length ≤ 1048576) (h : Pipes w v l bs) (hF : (∀ X, Below w.heap.size w X → ∀ (i : Nat) (x : Pip), l[i]? = some x → ∀ (z : Value) (b : List Nat) , IntsO X z x.data b → Calls Tryz.prog 237 #[.agg (x.cells z).toArray, .pointer (some ⟨B, 0, none⟩)] X fun e w' => e = .returned (.bool (g x)) ∧ Below X.heap.size X w')) :
  Calls Tryz.prog 236 #[v, .func (.func 237) #[] #[.pointer (some ⟨B, 0, none⟩)]] w fun e w' => e = .returned (.bool (l.any g)) ∧ Below w.heap.size w w' := by
 have H := hd (idxAllPipe v l bs g B w hs h hF)
 obtain ⟨a, c, rfl⟩ : ∃ a c, v = .slice a l.length c := h.slice
 clear h hF
 go_enter Tryz.func236, Tryz.ntmps236
 go_wp2_with (go_at_call 278; fail)
 refine H.out.mono ?_
 rintro e w1 ⟨r, rfl, hr, hb1⟩
 go_wp2
 go_ret
 exact ⟨by rw [← hr.out]; rfl, hb1⟩

set_option maxHeartbeats 1000000 in
theorem idxAllFile (v : Value) (l : List Pip) (bs : List Nat) (g : Pip → Bool) (B : Nat) (w : World) (hs : l.length ≤ 1048576) (h : Files w v l bs) (hF : (∀ X, Below w.heap.size w X → ∀ (i : Nat) (x : Pip), l[i]? = some x → ∀ (z : Value) (b : List Nat) , IntsO X z x.data b → Calls Tryz.prog 241 #[.agg (x.cells z).toArray, .pointer (some ⟨B, 0, none⟩)] X fun e w' => e = .returned (.bool (g x)) ∧ Below X.heap.size X w')) :
  Calls Tryz.prog 279 #[v, .func (.func 241) #[] #[.pointer (some ⟨B, 0, none⟩)]] w fun e w' => ∃ r : Int, e = .returned (.int .i64 r) ∧ Hid (decide (0 ≤ r) = l.any g) ∧ Below w.heap.size w w' := by
 obtain ⟨a, c, rfl⟩ : ∃ a c, v = .slice a l.length c := h.slice
 have HR := hd h
 have HF := hd hF
 clear h hF
 go_enter Tryz.func279, Tryz.ntmps279
 go_wp2_with fail
 go_loopw [8] (fun i wr => ∃ k : Nat, k ≤ l.length ∧ i = .int .i64 k ∧ Hid ((l.take k).all (fun x => !g x) = true) ∧ Below w.heap.size w wr) (fun i _ => l.length - (intOf i).toNat)
 case atStart => exact ⟨0, Nat.zero_le _, rfl, hd rfl, Below.refl _ _⟩
 case round =>
  obtain ⟨k, hk, rfl, hall, hbel⟩ := hrel
  by_cases hlt : k < l.length
  ·obtain ⟨g0, rfl⟩ : ∃ g0, a = some ⟨g0, 0, none⟩ := by
    rcases HR.out.cases with ⟨hh, h0, _⟩ | ⟨g0, cap, hh, _⟩
    ·rw [h0] at hlt; simp at hlt
    ·simp at hh; exact ⟨g0, hh.1⟩
   obtain ⟨x, cs, b', hp, hP, ho⟩ := (HR.out.below good_pi hbel).out hlt
   obtain ⟨z, rfl, hz⟩ := hP
   have HM := hd (HF.out wr hbel k x hp z b' hz)
   obtain ⟨za, zc, rfl⟩ := hz.slice
   have c0 := ho.cell 0 _ rfl
   have c1 := ho.cell 1 _ rfl
   rw [Nat.add_zero] at c0
   unfold Pip.cells ic at HM
   unfold ic at c0
   clear ho hz
   have hk0 : (0 : Int) ≤ k := by omega
   have hk1 : (k : Int) < l.length := by omega
   cases hg : g x
   ·have HA := hd (all_take (fun x => !g x) l k x hp hall.out (by simp [hg]))
    rw [hg] at HM
    clear hg hp
    go_wp2_with (go_at_call 241; refine HM.out.mono ?_; rintro e w1 ⟨rfl, hb1⟩)
    go_roundw
    case rel => exact ⟨k + 1, by omega, by go_num, HA, hbel.trans (hb1.mono hbel.size)⟩
    case measure => simp [intOf]; omega
   ·have HA := hd (any_yes g l k x hp hg)
    rw [hg] at HM
    clear hg hp
    go_wp2_with (go_at_call 241; refine HM.out.mono ?_; rintro e w1 ⟨rfl, hb1⟩)
    go_ret
    exact ⟨k, rfl, hd (by rw [HA.out]; simp), hbel.trans (hb1.mono hbel.size)⟩
  ·obtain rfl : k = l.length := by omega
   have HA := hd (any_not g l _ rfl hall.out)
   go_wp2
   go_ret
   exact ⟨-1, rfl, hd (by rw [HA.out]; rfl), hbel⟩
theorem hasAllFile (v : Value) (l : List Pip) (bs : List Nat) (g : Pip → Bool) (B : Nat) (w : World) (hs : l.length ≤ 1048576) (h : Files w v l bs) (hF : (∀ X, Below w.heap.size w X → ∀ (i : Nat) (x : Pip), l[i]? = some x → ∀ (z : Value) (b : List Nat) , IntsO X z x.data b → Calls Tryz.prog 241 #[.agg (x.cells z).toArray, .pointer (some ⟨B, 0, none⟩)] X fun e w' => e = .returned (.bool (g x)) ∧ Below X.heap.size X w')) :
  Calls Tryz.prog 240 #[v, .func (.func 241) #[] #[.pointer (some ⟨B, 0, none⟩)]] w fun e w' => e = .returned (.bool (l.any g)) ∧ Below w.heap.size w w' := by
 have H := hd (idxAllFile v l bs g B w hs h hF)
 obtain ⟨a, c, rfl⟩ : ∃ a c, v = .slice a l.length c := h.slice
 clear h hF
 go_enter Tryz.func240, Tryz.ntmps240
 go_wp2_with (go_at_call 279; fail)
 refine H.out.mono ?_
 rintro e w1 ⟨r, rfl, hr, hb1⟩
 go_wp2
 go_ret
 exact ⟨by rw [← hr.out]; rfl, hb1⟩

set_option maxHeartbeats 1000000 in
theorem idxInt (v : Value) (l : List Int) (g : Int → Bool) (B : Nat) (w : World) (hs : l.length ≤ 1048576) (h : Ints w v l) (hF : (∀ X, Below w.heap.size w X → ∀ (i : Nat) (x : Int), l[i]? = some x → ∀ (_ : Unit), Calls Tryz.prog 281 #[.int .i64 x, .pointer (some ⟨B, 0, none⟩)] X fun e w' => e = .returned (.bool (g x)) ∧ Below X.heap.size X w')) :
  Calls Tryz.prog 298 #[v, .func (.func 281) #[] #[.pointer (some ⟨B, 0, none⟩)]] w fun e w' => ∃ r : Int, e = .returned (.int .i64 r) ∧ Hid (decide (0 ≤ r) = l.any g) ∧ Below w.heap.size w w' := by
 obtain ⟨a, c, rfl⟩ : ∃ a c, v = .slice a l.length c := (by rcases h with ⟨rfl, rfl⟩ | ⟨g0, c0, rfl, _⟩ <;> exact ⟨_, _, rfl⟩)
 have HR := hd h
 have HF := hd hF
 clear h hF
 go_enter Tryz.func298, Tryz.ntmps298
 go_wp2_with fail
 go_loopw [8] (fun i wr => ∃ k : Nat, k ≤ l.length ∧ i = .int .i64 k ∧ Hid ((l.take k).all (fun x => !g x) = true) ∧ Below w.heap.size w wr) (fun i _ => l.length - (intOf i).toNat)
 case atStart => exact ⟨0, Nat.zero_le _, rfl, hd rfl, Below.refl _ _⟩
 case round =>
  obtain ⟨k, hk, rfl, hall, hbel⟩ := hrel
  by_cases hlt : k < l.length
  ·obtain ⟨x, hp⟩ : ∃ x, l[k]? = some x := ⟨l[k], by simp [hlt]⟩
   obtain ⟨g0, rfl, c0⟩ : ∃ g0, a = some ⟨g0, 0, none⟩ ∧ wr.cell? ⟨g0, k, none⟩ = some (.int .i64 x) := by
    rcases HR.out.below hbel with ⟨hh, h0⟩ | ⟨g0, cap, hh, _, hcc⟩
    ·rw [h0] at hlt; simp at hlt
    ·simp at hh; exact ⟨g0, hh.1, hcc k x hp⟩
   have HM := hd (HF.out wr hbel k x hp ())
   have hk0 : (0 : Int) ≤ k := by omega
   have hk1 : (k : Int) < l.length := by omega
   cases hg : g x
   ·have HA := hd (all_take (fun x => !g x) l k x hp hall.out (by simp [hg]))
    rw [hg] at HM
    clear hg hp
    go_wp2_with (go_at_call 281; refine HM.out.mono ?_; rintro e w1 ⟨rfl, hb1⟩)
    go_roundw
    case rel => exact ⟨k + 1, by omega, by go_num, HA, hbel.trans (hb1.mono hbel.size)⟩
    case measure => simp [intOf]; omega
   ·have HA := hd (any_yes g l k x hp hg)
    rw [hg] at HM
    clear hg hp
    go_wp2_with (go_at_call 281; refine HM.out.mono ?_; rintro e w1 ⟨rfl, hb1⟩)
    go_ret
    exact ⟨k, rfl, hd (by rw [HA.out]; simp), hbel.trans (hb1.mono hbel.size)⟩
  ·obtain rfl : k = l.length := by omega
   have HA := hd (any_not g l _ rfl hall.out)
   go_wp2
   go_ret
   exact ⟨-1, rfl, hd (by rw [HA.out]; rfl), hbel⟩
theorem hasInt (v : Value) (l : List Int) (g : Int → Bool) (B : Nat) (w : World) (hs : l.length ≤ 1048576) (h : Ints w v l) (hF : (∀ X, Below w.heap.size w X → ∀ (i : Nat) (x : Int), l[i]? = some x → ∀ (_ : Unit), Calls Tryz.prog 281 #[.int .i64 x, .pointer (some ⟨B, 0, none⟩)] X fun e w' => e = .returned (.bool (g x)) ∧ Below X.heap.size X w')) :
  Calls Tryz.prog 280 #[v, .func (.func 281) #[] #[.pointer (some ⟨B, 0, none⟩)]] w fun e w' => e = .returned (.bool (l.any g)) ∧ Below w.heap.size w w' := by
 have H := hd (idxInt v l g B w hs h hF)
 obtain ⟨a, c, rfl⟩ : ∃ a c, v = .slice a l.length c := (by rcases h with ⟨rfl, rfl⟩ | ⟨g0, c0, rfl, _⟩ <;> exact ⟨_, _, rfl⟩)
 clear h hF
 go_enter Tryz.func280, Tryz.ntmps280
 go_wp2_with (go_at_call 298; fail)
 refine H.out.mono ?_
 rintro e w1 ⟨r, rfl, hr, hb1⟩
 go_wp2
 go_ret
 exact ⟨by rw [← hr.out]; rfl, hb1⟩

theorem cloOpens (x : Ope) (C : Nat) (q : Bool) (B : Nat) (w : World) (hB : B < w.heap.size) (hc : w.cell? ⟨B, 0, none⟩ = some (.func (.func 166) #[] #[.pointer (some ⟨C, 0, none⟩)]))
  (hF : ∀ X, Below w.heap.size w X → Calls Tryz.prog 166 #[.agg x.cells.toArray, .pointer (some ⟨C, 0, none⟩)] X fun e w' => e = .returned (.bool q) ∧ Below X.heap.size X w') :
  Calls Tryz.prog 233 #[.agg x.cells.toArray, .pointer (some ⟨B, 0, none⟩)] w fun e w' => e = .returned (.bool (!q)) ∧ Below w.heap.size w w' := by
 have hb0 : Below w.heap.size w (w.alloc (.cells x.cells.toArray 93)) := (Below.refl _ w).alloc (Nat.le_refl _) _
 have H := hd (hF _ hb0)
 have hc' := (hb0.cell (p := ⟨B, 0, none⟩) hB).trans hc
 unfold Ope.cells ic at *
 go_enter Tryz.func233, Tryz.ntmps233
 go_wp2_with (go_at_call 166; refine H.out.mono ?_; rintro e w1 ⟨rfl, hb1⟩)
 go_ret
 exact ⟨rfl, hb0.trans (hb1.mono hb0.size)⟩
theorem allOpens (v : Value) (l : List Ope) (bs : List Nat) (g : Ope → Bool) (C : Nat) (w : World) (hs : l.length ≤ 1048576) (h : Opens w v l bs) (hF : (∀ X, Below w.heap.size w X → ∀ (i : Nat) (x : Ope), l[i]? = some x → ∀ (_ : Unit), Calls Tryz.prog 166 #[.agg x.cells.toArray, .pointer (some ⟨C, 0, none⟩)] X fun e w' => e = .returned (.bool (g x)) ∧ Below X.heap.size X w')) :
  Calls Tryz.prog 165 #[v, (.func (.func 166) #[] #[.pointer (some ⟨C, 0, none⟩)])] w fun e w' => e = .returned (.bool (l.all g)) ∧ Below w.heap.size w w' := by
 have hb0 : Below w.heap.size w (w.alloc (.cells #[(.func (.func 166) #[] #[.pointer (some ⟨C, 0, none⟩)])] 225)) := (Below.refl _ w).alloc (Nat.le_refl _) _
 have H := hd (hasAllOpen v l bs (fun x => !g x) w.heap.size (w.alloc (.cells #[(.func (.func 166) #[] #[.pointer (some ⟨C, 0, none⟩)])] 225)) hs (h.below good_op hb0) (fun X hX i x hx _ => cloOpens x C (g x) w.heap.size X (Nat.lt_of_lt_of_le (by simp) hX.size) ((hX.cell (p := ⟨w.heap.size, 0, none⟩) (by simp)).trans (by simp)) fun Y hY => hF Y (hb0.trans ((hX.trans (hY.mono hX.size)).mono hb0.size)) i x hx ()))
 obtain ⟨a, c, rfl⟩ : ∃ a c, v = .slice a l.length c := h.slice
 have HQ := hd (all_any_not g l)
 obtain ⟨q, hq⟩ : ∃ q, (l.any fun x => !g x) = q := ⟨_, rfl⟩
 rw [hq] at H HQ
 rw [← HQ.out]
 clear h hF hq
 go_enter Tryz.func165, Tryz.ntmps165
 go_wp2_with (go_at_call 232; refine H.out.mono ?_; rintro e w1 ⟨rfl, hb1⟩)
 go_ret
 exact ⟨rfl, hb0.trans (hb1.mono hb0.size)⟩

theorem cloPipes (x : Pip) (za : Option Addr) (zn zc : Nat) (C : Nat) (q : Bool) (B : Nat) (w : World) (hB : B < w.heap.size) (hc : w.cell? ⟨B, 0, none⟩ = some (.func (.func 169) #[] #[.pointer (some ⟨C, 0, none⟩)]))
  (hF : ∀ X, Below w.heap.size w X → Calls Tryz.prog 169 #[.agg (x.cells (.slice za zn zc)).toArray, .pointer (some ⟨C, 0, none⟩)] X fun e w' => e = .returned (.bool q) ∧ Below X.heap.size X w') :
  Calls Tryz.prog 237 #[.agg (x.cells (.slice za zn zc)).toArray, .pointer (some ⟨B, 0, none⟩)] w fun e w' => e = .returned (.bool (!q)) ∧ Below w.heap.size w w' := by
 have hb0 : Below w.heap.size w (w.alloc (.cells (x.cells (.slice za zn zc)).toArray 103)) := (Below.refl _ w).alloc (Nat.le_refl _) _
 have H := hd (hF _ hb0)
 have hc' := (hb0.cell (p := ⟨B, 0, none⟩) hB).trans hc
 unfold Pip.cells ic at *
 go_enter Tryz.func237, Tryz.ntmps237
 go_wp2_with (go_at_call 169; refine H.out.mono ?_; rintro e w1 ⟨rfl, hb1⟩)
 go_ret
 exact ⟨rfl, hb0.trans (hb1.mono hb0.size)⟩
theorem allPipes (v : Value) (l : List Pip) (bs : List Nat) (g : Pip → Bool) (C : Nat) (w : World) (hs : l.length ≤ 1048576) (h : Pipes w v l bs) (hF : (∀ X, Below w.heap.size w X → ∀ (i : Nat) (x : Pip), l[i]? = some x → ∀ (z : Value) (b : List Nat) , IntsO X z x.data b → Calls Tryz.prog 169 #[.agg (x.cells z).toArray, .pointer (some ⟨C, 0, none⟩)] X fun e w' => e = .returned (.bool (g x)) ∧ Below X.heap.size X w')) :
  Calls Tryz.prog 168 #[v, (.func (.func 169) #[] #[.pointer (some ⟨C, 0, none⟩)])] w fun e w' => e = .returned (.bool (l.all g)) ∧ Below w.heap.size w w' := by
 have hb0 : Below w.heap.size w (w.alloc (.cells #[(.func (.func 169) #[] #[.pointer (some ⟨C, 0, none⟩)])] 228)) := (Below.refl _ w).alloc (Nat.le_refl _) _
 have H := hd (hasAllPipe v l bs (fun x => !g x) w.heap.size (w.alloc (.cells #[(.func (.func 169) #[] #[.pointer (some ⟨C, 0, none⟩)])] 228)) hs (h.below good_pi hb0) (fun X hX i x hx z b hz => by obtain ⟨za, zc, rfl⟩ := hz.slice; exact cloPipes x za _ zc C (g x) w.heap.size X (Nat.lt_of_lt_of_le (by simp) hX.size) ((hX.cell (p := ⟨w.heap.size, 0, none⟩) (by simp)).trans (by simp)) fun Y hY => hF Y (hb0.trans ((hX.trans (hY.mono hX.size)).mono hb0.size)) i x hx _ b (hz.below hY)))
 obtain ⟨a, c, rfl⟩ : ∃ a c, v = .slice a l.length c := h.slice
 have HQ := hd (all_any_not g l)
 obtain ⟨q, hq⟩ : ∃ q, (l.any fun x => !g x) = q := ⟨_, rfl⟩
 rw [hq] at H HQ
 rw [← HQ.out]
 clear h hF hq
 go_enter Tryz.func168, Tryz.ntmps168
 go_wp2_with (go_at_call 236; refine H.out.mono ?_; rintro e w1 ⟨rfl, hb1⟩)
 go_ret
 exact ⟨rfl, hb0.trans (hb1.mono hb0.size)⟩

theorem cloFiles (x : Pip) (za : Option Addr) (zn zc : Nat) (q : Bool) (B : Nat) (w : World) (hB : B < w.heap.size) (hc : w.cell? ⟨B, 0, none⟩ = some (.func (.func 172) #[] #[]))
  (hF : ∀ X, Below w.heap.size w X → Calls Tryz.prog 172 #[.agg (x.cells (.slice za zn zc)).toArray] X fun e w' => e = .returned (.bool q) ∧ Below X.heap.size X w') :
  Calls Tryz.prog 241 #[.agg (x.cells (.slice za zn zc)).toArray, .pointer (some ⟨B, 0, none⟩)] w fun e w' => e = .returned (.bool (!q)) ∧ Below w.heap.size w w' := by
 have hb0 : Below w.heap.size w (w.alloc (.cells (x.cells (.slice za zn zc)).toArray 115)) := (Below.refl _ w).alloc (Nat.le_refl _) _
 have H := hd (hF _ hb0)
 have hc' := (hb0.cell (p := ⟨B, 0, none⟩) hB).trans hc
 unfold Pip.cells ic at *
 go_enter Tryz.func241, Tryz.ntmps241
 go_wp2_with (go_at_call 172; refine H.out.mono ?_; rintro e w1 ⟨rfl, hb1⟩)
 go_ret
 exact ⟨rfl, hb0.trans (hb1.mono hb0.size)⟩
theorem allFiles (v : Value) (l : List Pip) (bs : List Nat) (g : Pip → Bool) (w : World) (hs : l.length ≤ 1048576) (h : Files w v l bs) (hF : (∀ X, Below w.heap.size w X → ∀ (i : Nat) (x : Pip), l[i]? = some x → ∀ (z : Value) (b : List Nat) , IntsO X z x.data b → Calls Tryz.prog 172 #[.agg (x.cells z).toArray] X fun e w' => e = .returned (.bool (g x)) ∧ Below X.heap.size X w')) :
  Calls Tryz.prog 171 #[v, (.func (.func 172) #[] #[])] w fun e w' => e = .returned (.bool (l.all g)) ∧ Below w.heap.size w w' := by
 have hb0 : Below w.heap.size w (w.alloc (.cells #[(.func (.func 172) #[] #[])] 230)) := (Below.refl _ w).alloc (Nat.le_refl _) _
 have H := hd (hasAllFile v l bs (fun x => !g x) w.heap.size (w.alloc (.cells #[(.func (.func 172) #[] #[])] 230)) hs (h.below good_pi hb0) (fun X hX i x hx z b hz => by obtain ⟨za, zc, rfl⟩ := hz.slice; exact cloFiles x za _ zc (g x) w.heap.size X (Nat.lt_of_lt_of_le (by simp) hX.size) ((hX.cell (p := ⟨w.heap.size, 0, none⟩) (by simp)).trans (by simp)) fun Y hY => hF Y (hb0.trans ((hX.trans (hY.mono hX.size)).mono hb0.size)) i x hx _ b (hz.below hY)))
 obtain ⟨a, c, rfl⟩ : ∃ a c, v = .slice a l.length c := h.slice
 have HQ := hd (all_any_not g l)
 obtain ⟨q, hq⟩ : ∃ q, (l.any fun x => !g x) = q := ⟨_, rfl⟩
 rw [hq] at H HQ
 rw [← HQ.out]
 clear h hF hq
 go_enter Tryz.func171, Tryz.ntmps171
 go_wp2_with (go_at_call 240; refine H.out.mono ?_; rintro e w1 ⟨rfl, hb1⟩)
 go_ret
 exact ⟨rfl, hb0.trans (hb1.mono hb0.size)⟩

theorem cloFds (x : Int) (C : Nat) (q : Bool) (B : Nat) (w : World) (hB : B < w.heap.size) (hc : w.cell? ⟨B, 0, none⟩ = some (.func (.func 293) #[] #[.pointer (some ⟨C, 0, none⟩)]))
  (hF : ∀ X, Below w.heap.size w X → Calls Tryz.prog 293 #[.int .i64 x, .pointer (some ⟨C, 0, none⟩)] X fun e w' => e = .returned (.bool q) ∧ Below X.heap.size X w') :
  Calls Tryz.prog 281 #[.int .i64 x, .pointer (some ⟨B, 0, none⟩)] w fun e w' => e = .returned (.bool (!q)) ∧ Below w.heap.size w w' := by
 have H := hd (hF w (Below.refl _ _))
 go_enter Tryz.func281, Tryz.ntmps281
 go_wp2_with (go_at_call 293; refine H.out.mono ?_; rintro e w1 ⟨rfl, hb1⟩)
 go_ret
 exact ⟨rfl, hb1⟩
theorem allFds (v : Value) (l : List Int) (g : Int → Bool) (C : Nat) (w : World) (hs : l.length ≤ 1048576) (h : Ints w v l) (hF : (∀ X, Below w.heap.size w X → ∀ (i : Nat) (x : Int), l[i]? = some x → ∀ (_ : Unit), Calls Tryz.prog 293 #[.int .i64 x, .pointer (some ⟨C, 0, none⟩)] X fun e w' => e = .returned (.bool (g x)) ∧ Below X.heap.size X w')) :
  Calls Tryz.prog 243 #[v, (.func (.func 293) #[] #[.pointer (some ⟨C, 0, none⟩)])] w fun e w' => e = .returned (.bool (l.all g)) ∧ Below w.heap.size w w' := by
 have hb0 : Below w.heap.size w (w.alloc (.cells #[(.func (.func 293) #[] #[.pointer (some ⟨C, 0, none⟩)])] 221)) := (Below.refl _ w).alloc (Nat.le_refl _) _
 have H := hd (hasInt v l (fun x => !g x) w.heap.size (w.alloc (.cells #[(.func (.func 293) #[] #[.pointer (some ⟨C, 0, none⟩)])] 221)) hs (h.below hb0) (fun X hX i x hx _ => cloFds x C (g x) w.heap.size X (Nat.lt_of_lt_of_le (by simp) hX.size) ((hX.cell (p := ⟨w.heap.size, 0, none⟩) (by simp)).trans (by simp)) fun Y hY => hF Y (hb0.trans ((hX.trans (hY.mono hX.size)).mono hb0.size)) i x hx ()))
 obtain ⟨a, c, rfl⟩ : ∃ a c, v = .slice a l.length c := (by rcases h with ⟨rfl, rfl⟩ | ⟨g0, c0, rfl, _⟩ <;> exact ⟨_, _, rfl⟩)
 have HQ := hd (all_any_not g l)
 obtain ⟨q, hq⟩ : ∃ q, (l.any fun x => !g x) = q := ⟨_, rfl⟩
 rw [hq] at H HQ
 rw [← HQ.out]
 clear h hF hq
 go_enter Tryz.func243, Tryz.ntmps243
 go_wp2_with (go_at_call 280; refine H.out.mono ?_; rintro e w1 ⟨rfl, hb1⟩)
 go_ret
 exact ⟨rfl, hb0.trans (hb1.mono hb0.size)⟩

theorem cloOnly (x : Int) (C : Nat) (q : Bool) (B : Nat) (w : World) (hB : B < w.heap.size) (hc : w.cell? ⟨B, 0, none⟩ = some (.func (.func 244) #[] #[.pointer (some ⟨C, 0, none⟩)]))
  (hF : ∀ X, Below w.heap.size w X → Calls Tryz.prog 244 #[.int .i64 x, .pointer (some ⟨C, 0, none⟩)] X fun e w' => e = .returned (.bool q) ∧ Below X.heap.size X w') :
  Calls Tryz.prog 281 #[.int .i64 x, .pointer (some ⟨B, 0, none⟩)] w fun e w' => e = .returned (.bool (!q)) ∧ Below w.heap.size w w' := by
 have H := hd (hF w (Below.refl _ _))
 go_enter Tryz.func281, Tryz.ntmps281
 go_wp2_with (go_at_call 244; refine H.out.mono ?_; rintro e w1 ⟨rfl, hb1⟩)
 go_ret
 exact ⟨rfl, hb1⟩
theorem allOnly (v : Value) (l : List Int) (g : Int → Bool) (C : Nat) (w : World) (hs : l.length ≤ 1048576) (h : Ints w v l) (hF : (∀ X, Below w.heap.size w X → ∀ (i : Nat) (x : Int), l[i]? = some x → ∀ (_ : Unit), Calls Tryz.prog 244 #[.int .i64 x, .pointer (some ⟨C, 0, none⟩)] X fun e w' => e = .returned (.bool (g x)) ∧ Below X.heap.size X w')) :
  Calls Tryz.prog 243 #[v, (.func (.func 244) #[] #[.pointer (some ⟨C, 0, none⟩)])] w fun e w' => e = .returned (.bool (l.all g)) ∧ Below w.heap.size w w' := by
 have hb0 : Below w.heap.size w (w.alloc (.cells #[(.func (.func 244) #[] #[.pointer (some ⟨C, 0, none⟩)])] 221)) := (Below.refl _ w).alloc (Nat.le_refl _) _
 have H := hd (hasInt v l (fun x => !g x) w.heap.size (w.alloc (.cells #[(.func (.func 244) #[] #[.pointer (some ⟨C, 0, none⟩)])] 221)) hs (h.below hb0) (fun X hX i x hx _ => cloOnly x C (g x) w.heap.size X (Nat.lt_of_lt_of_le (by simp) hX.size) ((hX.cell (p := ⟨w.heap.size, 0, none⟩) (by simp)).trans (by simp)) fun Y hY => hF Y (hb0.trans ((hX.trans (hY.mono hX.size)).mono hb0.size)) i x hx ()))
 obtain ⟨a, c, rfl⟩ : ∃ a c, v = .slice a l.length c := (by rcases h with ⟨rfl, rfl⟩ | ⟨g0, c0, rfl, _⟩ <;> exact ⟨_, _, rfl⟩)
 have HQ := hd (all_any_not g l)
 obtain ⟨q, hq⟩ : ∃ q, (l.any fun x => !g x) = q := ⟨_, rfl⟩
 rw [hq] at H HQ
 rw [← HQ.out]
 clear h hF hq
 go_enter Tryz.func243, Tryz.ntmps243
 go_wp2_with (go_at_call 280; refine H.out.mono ?_; rintro e w1 ⟨rfl, hb1⟩)
 go_ret
 exact ⟨rfl, hb0.trans (hb1.mono hb0.size)⟩

end Go.Proofs.YtoeolfegmklbaaaGreat.ImB
