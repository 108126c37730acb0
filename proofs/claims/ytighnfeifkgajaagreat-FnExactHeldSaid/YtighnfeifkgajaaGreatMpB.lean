/- Ranging over the map of processes: which one comes. Condition: none. -/
import Derived.Test.YtighnfeifkgajaaGreatImG
namespace Go.Proofs.YtighnfeifkgajaaGreat.MpB
open Go.RowKit Go.Deep Num InsC InsO ProgC IntC RowC PrgL UnC PlcM BootA SpC SpD ImA ImB ImC ImD ImE CpuI CpuS Bel SpA MpA
open Go.Maps (Keyed int_keyed keyOf_int_mk)
set_option maxRecDepth 100000
set_option linter.unusedVariables false
set_option linter.unusedSimpArgs false

theorem wpList_next_map (w : World) {ops : Array Oper} {rest : List Oper} {o : Oper} {a : Act} {Q : Exit → Act → World → Prop} (hg : o.guard = none) (it : Operand) (hop : o.op = Op.next it false) (W : World) (M r n : Nat) (l : List Pr) (gs : List Nat) (D : DataW Unit) (left : Lit → Bool) (cnt : Nat)
    (hM : MapR W M l gs D) (hit : a.eval it = .pointer (some ⟨r, 0, none⟩)) (h : w.ranges Tryz.prog 3 ptrElem M r n D left cnt)
    (hDone : cnt = 0 → (∀ kl, left kl = false) → wpList Tryz.prog ops Q rest (a.put o.dst (.tuple #[.bool false])) w)
    (hMore : ∀ (i : Nat) (p : Pr) (g : Nat) (w' : World) (cnt' : Nat), l[i]? = some p → gs[i]? = some g → left (key p.pid) = true → w'.ranges Tryz.prog 3 ptrElem M r n D (fun z => left z && !z.sameKey (key p.pid)) cnt' → cnt' < cnt → w.grownBy w' (some r) → w'.heap.size = w.heap.size →
      (Instr.entry (.pointer (some ⟨r, 0, none⟩))).run Tryz.prog w' = .ok (.tuple #[.int .i64 p.pid, .pointer (some ⟨g, 0, none⟩)]) w' → wpList Tryz.prog ops Q rest (a.put o.dst (.tuple #[.bool true, .int .i64 p.pid, .pointer (some ⟨g, 0, none⟩)])) w') :
    wpList Tryz.prog ops Q (o :: rest) a w := by
  refine wpList_next_ranges w hg it hop 3 law ptrElem (Value.int .i64) (fun b : Nat => .pointer (some ⟨b, 0, none⟩)) (fun k kl hk => ?_) (fun v y hv => ?_) M r n D left cnt hit h hDone ?_
  · obtain ⟨x, rfl, _⟩ := Maps.keyOf_int_inv Tryz.underlying3 hk
    exact ⟨x, rfl⟩
  · obtain ⟨b, rfl, _⟩ := ptrElem_inv hv
    exact ⟨b, rfl⟩
  · intro x c kl y w' cnt' hkey hlk hv hat hrg hlt hgr hsz hen
    obtain ⟨x', ex, rfl, hwx⟩ := Maps.keyOf_int_inv Tryz.underlying3 hkey
    cases ex
    obtain ⟨b, eb, rfl⟩ := ptrElem_inv hv
    simp at eb
    subst eb
    have hh := Maps.has_true_of_atKey hat
    rw [hM.has x] at hh
    obtain ⟨k, hk⟩ := Option.isSome_iff_exists.1 hh
    obtain ⟨p, hp, rfl⟩ := plcN_some Pr.pid x l k hk
    have hkl := (List.getElem?_eq_some_iff.1 hp).1
    have hlen := hM.len
    have hgk : gs[k]? = some gs[k] := List.getElem?_eq_getElem (by omega)
    have e := (hM.at_ p.pid k gs[k] hk hgk .nil).symm.trans (hat .nil)
    simp at e
    have e' : gs[k] = c := by omega
    rw [e'] at hgk
    exact hMore k p c w' cnt' hp hgk hlk hrg hlt hgr hsz hen
theorem grown_of {V w : World} (h : Below V.heap.size V w) : V.grownBy w none := ⟨h.os, h.tape, h.output, h.size, fun k hk _ => h.block k hk⟩

end Go.Proofs.YtighnfeifkgajaaGreat.MpB
