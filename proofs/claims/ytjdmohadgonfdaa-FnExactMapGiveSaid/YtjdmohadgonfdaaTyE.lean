/- The law's comparisons. Condition: none. -/
import Derived.Test.YtjdmohadgonfdaaTyM
import Derived.Deep.RegionHeld3
namespace Go.Proofs.Ytjdmohadgonfdaa.TyE
open Go.RowKit Go.ChangeShapes Go.WideShapes Go.Deep Num RowC TyA TyM
set_option maxRecDepth 100000
set_option linter.unusedVariables false
set_option linter.unusedSimpArgs false

theorem eq_BoolS_nil (a a' : Option Addr) (c c' : Nat) (w : World) :
    Calls Try.prog 18 #[.slice a 0 c, .slice a' 0 c'] w fun e w' => e = .returned (.bool true) ∧ Below w.heap.size w w' := by
  go_enter Try.func18, Try.ntmps18
  go_wp2_with fail
  go_loop [5] (fun i => i = .int .i64 0) (fun _ => 0)
  case atStart => rfl
  case round =>
    obtain rfl := hrel
    go_wp2
    go_ret
    exact ⟨rfl, Below.refl _ _⟩
set_option maxHeartbeats 400000 in
theorem eq_BoolS_some (g c g' c' : Nat) (l : List Bool) (w : World) (hl : l.length ≤ 3000000) (hg : g < w.heap.size) (hg' : g' < w.heap.size)
    (hc : ∀ i n, l[i]? = some n → w.cell? ⟨g, i, none⟩ = some (cB n)) (hc' : ∀ i n, l[i]? = some n → w.cell? ⟨g', i, none⟩ = some (cB n)) :
    Calls Try.prog 18 #[.slice (some ⟨g, 0, none⟩) l.length c, .slice (some ⟨g', 0, none⟩) l.length c'] w fun e w' => e = .returned (.bool true) ∧ Below w.heap.size w w' := by
  replace hc := hd hc
  replace hc' := hd hc'
  go_enter Try.func18, Try.ntmps18
  go_wp2_with fail
  go_loopw [5] (fun i wr => ∃ k : Nat, k ≤ l.length ∧ i = .int .i64 k ∧ Below w.heap.size w wr) (fun i _ => l.length - (intOf i).toNat)
  case atStart => exact ⟨0, Nat.zero_le _, rfl, Below.refl _ _⟩
  case round =>
    obtain ⟨k, hk, rfl, hbel⟩ := hrel
    by_cases hlt : k < l.length
    · obtain ⟨q, hq⟩ : ∃ q, l[k]? = some q := ⟨l[k], by simp [hlt]⟩
      have c0 := (hbel.cell (p := ⟨g, k, none⟩) hg).trans (hc.out k q hq)
      have e0 := (hbel.cell (p := ⟨g', k, none⟩) hg').trans (hc'.out k q hq)
      have hk0 : (0 : Int) ≤ k := by omega
      have hk1 : (k : Int) < l.length := by omega
      unfold cB at c0 e0
      clear hq
      go_wp2_with fail
      go_region
      all_goals
        go_wp2
        go_roundw
        case rel => exact ⟨k + 1, by omega, by go_num, hbel.drew⟩
        case measure => simp [intOf]; omega
    · obtain rfl : k = l.length := by omega
      go_wp2
      go_ret
      exact ⟨rfl, hbel⟩
theorem eq_BoolS (v v' : Value) (l : List Bool) (b b' : List Nat) (w : World) (hs : z_BoolS l ≤ 3000000) (h : OBoolS w v l b) (h' : OBoolS w v' l b') :
    Calls Try.prog 18 #[v, v'] w fun e w' => e = .returned (.bool true) ∧ Below w.heap.size w w' := by
  have hl : l.length ≤ 3000000 := by unfold z_BoolS at hs; omega
  rcases so_cases h with ⟨rfl, rfl, rfl⟩ | ⟨g, c, rfl, _, hg, _, hc⟩
  · obtain ⟨a, c, rfl⟩ := gv_BoolS.slice h'
    exact eq_BoolS_nil _ _ _ _ w
  · rcases so_cases h' with ⟨rfl, rfl, rfl⟩ | ⟨g', c', rfl, _, hg', _, hc'⟩
    · exact eq_BoolS_nil _ _ _ _ w
    · exact eq_BoolS_some g c g' c' l w hl hg hg' hc hc'

end Go.Proofs.Ytjdmohadgonfdaa.TyE
