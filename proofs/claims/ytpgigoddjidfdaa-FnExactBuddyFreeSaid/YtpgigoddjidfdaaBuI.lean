/- Chapter 15, impl's side: what its five functions answer. Condition: a heap of no more than 1048576 numbers and lists. -/
import Derived.Test.YtpgigoddjidfdaaBuM
import Derived.Test.YtpgigoddjidfdaaBuP
import Derived.Test.YtpgigoddjidfdaaBuR
namespace Go.Proofs.Ytpgigoddjidfdaa.BuI
open Go.RowKit Go.Deep Num RowC TyA TyM TyB TyR TyF TyP TyT BuS BuC TyV BuD BuE BuG BuH
set_option linter.unusedVariables false

theorem small {L : List (List Int)} (z : wS z_IntS L ≤ 1048576) : L.length ≤ 1048576 ∧ ∀ l ∈ L, l.length ≤ 1048576 := by
  refine ⟨by unfold wS at z; omega, fun l hl => ?_⟩
  obtain ⟨i, hi⟩ := List.getElem?_of_mem hl
  have := sumW_mem z_IntS L i l hi
  unfold wS at z; unfold z_IntS at *; omega
theorem ok_any (pv : Option Addr) (c : Nat) (L : List (List Int)) (bs : List Nat) (W : World) (z : wS z_IntS L ≤ 1048576) (h : OIntSS W (.slice pv L.length c) L bs) :
    Calls Try.prog 20 #[.agg #[.slice pv L.length c]] W fun e w' => e = .returned (.bool (okB L)) ∧ Below W.heap.size W w' :=
  BuM.ok_any pv c L bs W (small z).1 (fun l hl => Nat.le_trans ((small z).2 l hl) (by omega)) h
theorem free_any (pv : Option Addr) (c : Nat) (L : List (List Int)) (bs : List Nat) (W : World) (z : wS z_IntS L ≤ 1048576) (h : OIntSS W (.slice pv L.length c) L bs) :
    Calls Try.prog 13 #[.agg #[.slice pv L.length c]] W fun e w' => e = .returned (.int .i64 (freeB L)) ∧ Below W.heap.size W w' :=
  BuM.free_any pv c L bs W (small z).1 (fun l hl => Nat.le_trans ((small z).2 l hl) (by omega)) h
theorem take_any (pv : Option Addr) (c : Nat) (L : List (List Int)) (bs : List Nat) (W : World) (z : wS z_IntS L ≤ 1048576) (h : OIntSS W (.slice pv L.length c) L bs) :
    Calls Try.prog 11 #[.agg #[.slice pv L.length c]] W fun e w' => ∃ u d, e = .returned (.tuple #[.agg #[u], .int .i64 (tk1 L)]) ∧ OIntSS w' u (tk0 L) d ∧ d.Nodup ∧ (∀ y ∈ d, W.heap.size ≤ y) ∧ Below W.heap.size W w' :=
  BuP.take_any pv c L bs W (small z).1 (fun l hl => Nat.le_trans ((small z).2 l hl) (by omega)) h
theorem give_any (pv : Option Addr) (c : Nat) (L : List (List Int)) (bs : List Nat) (f : Int) (W : World) (z : wS z_IntS L ≤ 1048576) (h : OIntSS W (.slice pv L.length c) L bs) (r1 : Rng f) :
    Calls Try.prog 15 #[.agg #[.slice pv L.length c], .int .i64 f] W fun e w' => ∃ u d, e = .returned (.tuple #[.agg #[u], .bool (gv1 L f)]) ∧ OIntSS w' u (gv0 L f) d ∧ d.Nodup ∧ (∀ y ∈ d, W.heap.size ≤ y) ∧ Below W.heap.size W w' :=
  BuR.give_any pv c L bs f W (small z).1 (fun l hl => Nat.le_trans ((small z).2 l hl) (by omega)) h
theorem all_any (W : World) : Calls Try.prog 16 #[] W fun e w' => ∃ u d, e = .returned (.agg #[u]) ∧ OIntSS w' u allL d ∧ d.Nodup ∧ (∀ y ∈ d, W.heap.size ≤ y) ∧ Below W.heap.size W w' :=
  (BuM.all_new W).mono (fun e w' ⟨g, d, h1, h2, h3, h4, h5⟩ => ⟨_, d, h1, h2, h3, h4, h5⟩)

end Go.Proofs.Ytpgigoddjidfdaa.BuI
