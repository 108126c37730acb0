/- Small facts that the texts of this seat share: a row of bytes that a call owns, made a string. Condition: none. -/
import Derived.Test.YtpgigoddjidfdaaRows
import Derived.WalkKit
import Derived.WalkSpells
import Derived.Handy
import Derived.Deep.RegionLaw
namespace Go.Proofs.Ytpgigoddjidfdaa.Num
open Go.RowKit
set_option linter.unusedVariables false
set_option linter.unusedSimpArgs false

theorem hd {p : Prop} (h : p) : Hid p := h
/-- A byte as a cell. -/
def bc (b : UInt8) : Value := .int .u8 (b.toNat : Int)
theorem info8 : (Try.prog.info? 5).map (fun i => (i.zero, i.size, i.bytes)) = some (some (.int .u8 0), 1, 1) := by kernel_rfl

theorem conv_own {W : World} {B g cap : Nat} (l : List UInt8) (h : W.ownsRow B 5 1 (.slice (some ⟨g, 0, none⟩) l.length cap) l.length (l.map bc)) :
    (convert 22 9 (.slice (some ⟨g, 0, none⟩) l.length cap)).run Try.prog W = .ok (.string ⟨l.toArray⟩) W := by
  refine run_convert_bytes_back _ 22 9 5 ⟨g, 0, none⟩ cap l Try.underlying22 Try.underlying5 Try.underlying9 ?_
  intro j hj
  have := h.cellAt j (by omega)
  have ha : (⟨g, 0, none⟩ : Addr).add j = ⟨g, j, none⟩ := by unfold Addr.add; split <;> simp_all
  rw [ha, this]
  simp [bc, List.getElem?_eq_getElem hj]
theorem conv_any {W : World} {B : Nat} {v : Value} (l : List UInt8) (n : Nat) (hn : n = l.length) (h : W.ownsRow B 5 1 v n (l.map bc)) :
    (convert 22 9 v).run Try.prog W = .ok (.string ⟨l.toArray⟩) W := by
  subst hn
  rcases h.2 with ⟨rfl, h0⟩ | ⟨g, cap, cur, rfl, _⟩
  · obtain rfl : l = [] := List.eq_nil_of_length_eq_zero h0
    exact run_convert_bytes_nil _ 22 5 Try.underlying22 Try.underlying5 _ _ _ Try.underlying9
  · exact conv_own l h

theorem ownBlock_ge {W : World} {B e k : Nat} {v : Value} {n : Nat} {xs : List Value} (h : W.ownsRow B e 1 v n xs) (hk : v.ownBlock = some k) : B ≤ k := by
  rcases h.2 with ⟨rfl, _⟩ | ⟨g, cap, cur, rfl, hg, _⟩
  · simp [Value.ownBlock] at hk
  · simp [Value.ownBlock] at hk; omega

/-- 'out = append(out, b1, b2, ..)': bytes behind a row of bytes that the call owns. -/
theorem wpList_append_bytes {w : World} {ops : Array Oper} {rest : List Oper} {o : Oper} {a : Act} {Q : Exit → Act → World → Prop} (hgd : o.guard = none) (s x : Operand)
    (ho : o.op = .call { callee := .builtin .append, args := #[s, x], argTypes := #[22, 22] }) (B : Nat) (v : Value) (l : List UInt8) (n : Nat) (hn : n = l.length) (hs : a.eval s = v)
    (hown : w.ownsRow B 5 1 v n (l.map bc)) (g : Nat) (bs : List UInt8) (m : Nat) (hm : m = bs.length) (hx : a.eval x = .slice (some ⟨g, 0, none⟩) m m)
    (hc : ∀ j b, bs[j]? = some b → w.cell? ⟨g, j, none⟩ = some (bc b)) (hlen : l.length + bs.length ≤ 140737488355328) (hbase : B ≤ w.heap.size)
    (h : ∀ v' w', w'.ownsRow B 5 1 v' (l ++ bs).length ((l ++ bs).map bc) → Below B w w' → wpList Try.prog ops Q rest (a.put o.dst v') w') : wpList Try.prog ops Q (o :: rest) a w := by
  subst hn hm
  obtain ⟨i0, hi, hz0, hz1, hz2⟩ := info_parts info8
  refine wpList_append_own w hgd s x 22 ho B 5 i0 (.int .u8 0) 1 1 Try.underlying22 hi hz0 hz1 hz2 rfl (by decide) v l.length (l.map bc) hs hown ⟨g, 0, none⟩ bs.length bs.length (bs.map bc) hx (by simp) ?_ ?_ (by unfold maxLen; omega) (by omega) hbase ?_
  · intro j u hj
    rw [List.getElem?_map] at hj
    obtain ⟨b, hb, rfl⟩ := Option.map_eq_some_iff.1 hj
    have ha : (⟨g, 0, none⟩ : Addr).add j = ⟨g, j, none⟩ := by unfold Addr.add; split <;> simp_all
    rw [ha]; exact hc j b hb
  · intro u hu
    obtain ⟨b, _, rfl⟩ := List.mem_map.1 hu
    rfl
  · intro v' w' h1 h2 _
    refine h v' w' ?_ ((Below.refl _ _).grown h2 hbase (fun k hk => ownBlock_ge hown hk))
    rw [List.length_append, List.map_append]; exact h1
/-- The same as one step of a region that draws its order. -/
theorem step_append_bytes {w : World} {ops : Array Oper} {o : Oper} {a : Act} {K : Act → World → Prop} {Q : Exit → Act → World → Prop} {E : Prop} (hgd : o.guard = none) (s x : Operand)
    (ho : o.op = .call { callee := .builtin .append, args := #[s, x], argTypes := #[22, 22] }) (B : Nat) (v : Value) (l : List UInt8) (n : Nat) (hn : n = l.length) (hs : a.eval s = v)
    (hown : w.ownsRow B 5 1 v n (l.map bc)) (g : Nat) (bs : List UInt8) (m : Nat) (hm : m = bs.length) (hx : a.eval x = .slice (some ⟨g, 0, none⟩) m m)
    (hc : ∀ j b, bs[j]? = some b → w.cell? ⟨g, j, none⟩ = some (bc b)) (hlen : l.length + bs.length ≤ 140737488355328) (hbase : B ≤ w.heap.size)
    (h : ∀ v' w', w'.ownsRow B 5 1 v' (l ++ bs).length ((l ++ bs).map bc) → Below B w w' → K (a.put o.dst v') w') : if Region.wanted o (yielded ops a.tmps) = true then Oper.wp Try.prog o a w K Q else E := by
  have hw : Region.wanted o (yielded ops a.tmps) = true := by simp [Region.wanted, hgd]
  rw [if_pos hw]
  subst hn hm
  obtain ⟨i0, hi, hz0, hz1, hz2⟩ := info_parts info8
  refine wp_append_own w s x 22 ho B 5 i0 (.int .u8 0) 1 1 Try.underlying22 hi hz0 hz1 hz2 rfl (by decide) v l.length (l.map bc) hs hown ⟨g, 0, none⟩ bs.length bs.length (bs.map bc) hx (by simp) ?_ ?_ (by unfold maxLen; omega) (by omega) hbase ?_
  · intro j u hj
    rw [List.getElem?_map] at hj
    obtain ⟨b, hb, rfl⟩ := Option.map_eq_some_iff.1 hj
    have ha : (⟨g, 0, none⟩ : Addr).add j = ⟨g, j, none⟩ := by unfold Addr.add; split <;> simp_all
    rw [ha]; exact hc j b hb
  · intro u hu
    obtain ⟨b, _, rfl⟩ := List.mem_map.1 hu
    rfl
  · intro v' w' h1 h2 _
    refine h v' w' ?_ ((Below.refl _ _).grown h2 hbase (fun k hk => ownBlock_ge hown hk))
    rw [List.length_append, List.map_append]; exact h1
/-- One byte in a new block of its own, as 'append(out, b)' lays it. -/
theorem cells_one (W : World) (u : Value) (b : UInt8) (hu : u = bc b) : ∀ j c, [b][j]? = some c → (W.alloc (.cells #[u] 5)).cell? ⟨W.heap.size, j, none⟩ = some (bc c) := by
  subst hu
  intro j c hj
  match j, hj with
  | 0, hj => simp at hj; subst hj; simp
  | j + 1, hj => simp at hj

/-- 'string([]byte{b})'. -/
theorem conv_one (W : World) (u : Value) (b : UInt8) (hu : u = bc b) : (convert 22 9 (.slice (some ⟨W.heap.size, 0, none⟩) 1 1)).run Try.prog (W.alloc (.cells #[u] 5)) =
    .ok (.string ⟨#[b]⟩) (W.alloc (.cells #[u] 5)) := by
  refine run_convert_bytes_back _ 22 9 5 ⟨W.heap.size, 0, none⟩ 1 [b] Try.underlying22 Try.underlying5 Try.underlying9 ?_
  intro j hj
  obtain rfl : j = 0 := by simpa using hj
  subst hu
  simp [Addr.add, bc]

end Go.Proofs.Ytpgigoddjidfdaa.Num
