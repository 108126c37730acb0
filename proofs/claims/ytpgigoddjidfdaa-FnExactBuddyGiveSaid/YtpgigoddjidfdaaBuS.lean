/- Chapter 15, spec's side: its small functions. Condition: none. -/
import Derived.Test.YtpgigoddjidfdaaTyP
import Derived.Test.YtpgigoddjidfdaaTyR
import Derived.Test.YtpgigoddjidfdaaTyF
import Derived.Test.YtpgigoddjidfdaaTyT
import Derived.Deep.RegionHeld3
namespace Go.Proofs.Ytpgigoddjidfdaa.BuS
open Go.RowKit Go.Deep Num RowC TyA TyM TyB TyR TyF TyP TyT
set_option maxRecDepth 100000
set_option linter.unusedVariables false
set_option linter.unusedSimpArgs false

theorem l15Len_any (o : Nat) (w : World) (h : o ≤ 5) : Calls Try.prog 38 #[.int .i64 o] w fun e w' => e = .returned (.int .i64 ((2 ^ o : Nat) : Int)) ∧ w = w' := by
  rcases (by omega : o = 0 ∨ o = 1 ∨ o = 2 ∨ o = 3 ∨ o = 4 ∨ o = 5) with rfl | rfl | rfl | rfl | rfl | rfl
  all_goals
    go_enter Try.func38, Try.ntmps38
    go_wp2
    go_ret
    exact ⟨by kernel_rfl, rfl⟩
theorem l12Frame_any (f : Int) (w : World) : Calls Try.prog 71 #[.int .i64 f] w fun e w' => e = .returned (.bool (decide (0 ≤ f) && decide (f < 16))) ∧ w = w' := by
  by_cases c1 : 0 ≤ f
  · have d1 : decide (0 ≤ f) = true := by simp [c1]
    go_enter Try.func71, Try.ntmps71
    go_wp2
    go_ret
    exact ⟨by simp [c1], rfl⟩
  · have d1 : decide (0 ≤ f) = false := by simp; omega
    go_enter Try.func71, Try.ntmps71
    go_wp2
    go_ret
    exact ⟨by simp [c1], rfl⟩
theorem all_step' {α : Type} (f : α → Bool) (l : List α) (k : Nat) (q : α) (hq : l[k]? = some q) (hall : (l.take k).all f = true) (hf : f q = true) : (l.take (k + 1)).all f = true := by
  obtain ⟨h1, rfl⟩ := List.getElem?_eq_some_iff.1 hq
  rw [List.take_succ_eq_append_getElem h1, List.all_append, hall]
  simp [hf]
/-- Does a list have a number? -/
def hasB (l : List Int) (n : Int) : Bool := l.any (fun x => decide (x = n))
theorem l6Has_any (v : Value) (l : List Int) (b : List Nat) (n : Int) (w : World) (h : OIntS w v l b) (hl : l.length ≤ 3000000) :
    Calls Try.prog 39 #[v, .int .i64 n] w fun e w' => e = .returned (.bool (hasB l n)) ∧ w = w' := by
  obtain ⟨r, hr⟩ : ∃ r, hasB l n = r := ⟨_, rfl⟩
  rw [hr]
  replace hr := hd hr
  have HR := hd (so_cases h)
  obtain ⟨a, c, rfl⟩ := gv_IntS.slice h
  clear h
  go_enter Try.func39, Try.ntmps39
  go_wp2_with fail
  go_loop [5] (fun i => ∃ k : Nat, k ≤ l.length ∧ i = .int .i64 k ∧ Hid ((l.take k).all (fun y => decide (y ≠ n)) = true)) (fun i => l.length - (intOf i).toNat)
  case atStart => exact ⟨0, Nat.zero_le _, rfl, hd rfl⟩
  case round =>
    obtain ⟨k, hk, rfl, hall⟩ := hrel
    by_cases hlt : k < l.length
    · obtain ⟨q, hq⟩ : ∃ q, l[k]? = some q := ⟨l[k], by simp [hlt]⟩
      obtain ⟨g, c0, rfl⟩ : ∃ g, w.cell? ⟨g, k, none⟩ = some (.int .i64 q) ∧ a = some ⟨g, 0, none⟩ := by
        rcases HR.out with ⟨hh, h0, _⟩ | ⟨g, cap, hh, _, _, _, hc⟩
        · rw [h0] at hlt; simp at hlt
        · simp at hh; exact ⟨g, hc k q hq, hh.1⟩
      have HA := hd (fun hn => all_step' (fun y => decide (y ≠ n)) l k q hq hall.out (decide_eq_true hn))
      have hk0 : (0 : Int) ≤ k := by omega
      have hk1 : (k : Int) < l.length := by omega
      by_cases hn : q = n
      · have HE : Hid (r = true) := hd (by rw [← hr.out, hasB, List.any_eq_true]; exact ⟨q, List.mem_of_getElem? hq, by simpa using hn⟩)
        have hn' : (q == n) = true := by simpa using hn
        clear HA hn hq
        go_wp2
        go_ret
        exact ⟨by rw [HE.out]; rfl, rfl⟩
      · have HA' := hd (HA.out hn)
        have hn' : (q == n) = false := by simpa using hn
        clear HA hn hq
        go_wp2
        go_round
        case rel => exact ⟨k + 1, by omega, by go_num, HA'⟩
        case measure => simp [intOf]; omega
    · obtain rfl : k = l.length := by omega
      have HE : Hid (r = false) := hd (by
        rw [← hr.out, hasB, List.any_eq_false]
        have := hall.out
        rw [List.take_length, List.all_eq_true] at this
        intro x hx
        have := this x hx
        simpa using this)
      go_wp2
      go_ret
      exact ⟨by rw [HE.out]; rfl, rfl⟩

/-- A rising list with one more number. -/
def putL : List Int → Int → List Int
  | [], x => [x]
  | y :: t, x => if x < y then x :: y :: t else y :: putL t x
theorem putL_len (x : Int) : ∀ l : List Int, (putL l x).length = l.length + 1
  | [] => rfl
  | y :: t => by
    unfold putL
    split
    · rfl
    · simp [putL_len x t]
/-- While no greater number has come. -/
theorem putL_none (x : Int) : ∀ l : List Int, (∀ y ∈ l, ¬ x < y) → putL l x = l ++ [x]
  | [], _ => rfl
  | y :: t, h => by
    unfold putL
    rw [if_neg (h y (by simp)), putL_none x t (fun z hz => h z (by simp [hz]))]
    rfl
/-- Where the first greater one comes. -/
theorem putL_at (x : Int) : ∀ (l : List Int) (k : Nat) (q : Int), l[k]? = some q → x < q → (∀ y ∈ l.take k, ¬ x < y) → putL l x = l.take k ++ x :: l.drop k
  | [], k, q, h, _, _ => by simp at h
  | y :: t, 0, q, h, hx, _ => by
    simp at h
    subst h
    unfold putL
    rw [if_pos hx]
    rfl
  | y :: t, k + 1, q, h, hx, ha => by
    unfold putL
    rw [if_neg (ha y (by simp)), putL_at x t k q (by simpa using h) hx (fun z hz => ha z (by simp [hz]))]
    rfl
/-- What l15Put and l15Without have made. -/
def NewL (l : List Int) (w : World) (e : Ending) (w' : World) : Prop := ∃ u d, e = .returned u ∧ OIntS w' u l d ∧ d.Nodup ∧ (∀ y ∈ d, w.heap.size ≤ y) ∧ Below w.heap.size w w'
/-- A list under way: one's own, behind w. -/
def Und (w : World) (v : Value) (l : List Int) (wr : World) : Prop := wr.ownsRow w.heap.size 3 1 v l.length (l.map cI) ∧ Below w.heap.size w wr
theorem Und.so {w wr : World} {v : Value} {l : List Int} (h : Und w v l wr) : OIntS wr v l (blk v) ∧ (∀ y ∈ blk v, w.heap.size ≤ y) := ⟨⟨own_zero h.1, rfl⟩, fun y hy => (own_lt h.1 y hy).1⟩
theorem Und.new {w wr : World} {v : Value} {l : List Int} (h : Und w v l wr) : NewL l w (.returned v) wr := ⟨v, blk v, rfl, h.so.1, blk_nodup _, h.so.2, h.2⟩
theorem Und.start (w : World) : Und w (.slice (some ⟨w.heap.size, 0, none⟩) 0 0) [] (w.alloc (.cells #[] 3)) :=
  ⟨⟨rfl, .inr ⟨w.heap.size, 0, #[], rfl, Nat.le_refl _, heap_alloc_new w _, Nat.le_refl _, by unfold maxLen; omega, rfl, rfl⟩⟩, (Below.refl _ _).alloc (Nat.le_refl _) _⟩
theorem cell_one (X : World) (x : Int) : ∀ j (b : Int), [x][j]? = some b → (X.alloc (.cells #[.int .i64 x] 3)).cell? ⟨X.heap.size, 0 + j, none⟩ = some (cI b) := cell_new (c := cI) X x 3
/-- 'append(out, x)' of one number, onto a list under way. -/
theorem wpList_app1 {w wr : World} {ops : Array Oper} {rest : List Oper} {o : Oper} {a : Act} {Q : Exit → Act → World → Prop} (hgd : o.guard = none) (s x : Operand)
    (ho : o.op = .call { callee := .builtin .append, args := #[s, x], argTypes := #[35, 35] }) (v : Value) (l : List Int) (q : Int) (hs : a.eval s = v) (hU : Und w v l wr)
    (hx : a.eval x = .slice (some ⟨wr.heap.size, 0, none⟩) 1 1) (hlen : l.length ≤ 2500000)
    (h : ∀ oa oc (s2 : List Int) w', s2 = l ++ [q] → Und w (.slice oa s2.length oc) s2 w' → wpList Try.prog ops Q rest (a.put o.dst (.slice oa s2.length oc)) w') : wpList Try.prog ops Q (o :: rest) a (wr.alloc (.cells #[.int .i64 q] 3)) := by
  have hB := hU.2.alloc hU.2.size (.cells #[.int .i64 q] 3)
  refine wpList_append_so (c := cI) Try.underlying35 info_IntS rfl (by decide) (fun _ => rfl) hgd s x ho w.heap.size v l l.length rfl hs (hU.1.alloc _) wr.heap.size 0 [q] 1 1 rfl hx (cell_one wr q) (by simp; omega) hB.size ?_
  intro v' w' h1 h2 h3
  obtain ⟨oa', oc', rfl⟩ := own_slice h1
  exact h oa' oc' (l ++ [q]) w' rfl ⟨h1, hB.trans (h2.mono (Nat.le_refl _))⟩
set_option maxHeartbeats 2000000 in
theorem l15Without_any (v : Value) (l : List Int) (b : List Nat) (x : Int) (w : World) (h : OIntS w v l b) (hl : l.length ≤ 2000000) :
    Calls Try.prog 73 #[v, .int .i64 x] w fun e w' => NewL (l.filter (fun y => decide (y ≠ x))) w e w' := by
  have HR := hd (so_cases h)
  obtain ⟨a, c, rfl⟩ := gv_IntS.slice h
  clear h
  go_enter Try.func73, Try.ntmps73
  go_wp2_with fail
  have HU0 := hd (Und.start w)
  obtain ⟨V, hV⟩ : ∃ V, w.alloc (.cells #[] 3) = V := ⟨_, rfl⟩
  rw [hV] at HU0 ⊢
  clear hV
  go_loopw [5, 6] (fun o i wr => ∃ (k : Nat) (oa : Option Addr) (oc : Nat) (s : List Int), k ≤ l.length ∧ i = .int .i64 k ∧ o = .slice oa s.length oc ∧ s.length ≤ k ∧ Hid (s = (l.take k).filter (fun y => decide (y ≠ x))) ∧ Hid (Und w (.slice oa s.length oc) s wr)) (fun _ i _ => l.length - (intOf i).toNat)
  case atStart => exact ⟨0, _, 0, [], Nat.zero_le _, rfl, rfl, by simp, hd rfl, HU0⟩
  case round =>
    clear HU0
    obtain ⟨k, oa, oc, s, hk, rfl, rfl, hsk, HS, HU⟩ := hrel
    by_cases hlt : k < l.length
    · obtain ⟨q, hq⟩ : ∃ q, l[k]? = some q := ⟨l[k], by simp [hlt]⟩
      obtain ⟨g, c0, rfl⟩ : ∃ g, wr.cell? ⟨g, k, none⟩ = some (.int .i64 q) ∧ a = some ⟨g, 0, none⟩ := by
        rcases HR.out with ⟨hh, h0, _⟩ | ⟨g, cap, hh, _, hg, _, hc⟩
        · rw [h0] at hlt; simp at hlt
        · simp at hh; exact ⟨g, (HU.out.2.cell (p := ⟨g, k, none⟩) hg).trans (hc k q hq), hh.1⟩
      have hk0 : (0 : Int) ≤ k := by omega
      have hk1 : (k : Int) < l.length := by omega
      have hstep : (l.take (k + 1)).filter (fun y => decide (y ≠ x)) = (l.take k).filter (fun y => decide (y ≠ x)) ++ (if q ≠ x then [q] else []) := by
        obtain ⟨h1, rfl⟩ := List.getElem?_eq_some_iff.1 hq
        rw [List.take_succ_eq_append_getElem h1, List.filter_append]
        congr 1
        by_cases c : l[k] = x
        · simp [c]
        · simp [c]
      by_cases hn : q = x
      · have HS2 : Hid (s = (l.take (k + 1)).filter (fun y => decide (y ≠ x))) := hd (by rw [hstep, if_neg (by simpa using hn), List.append_nil]; exact HS.out)
        have hn' : (q != x) = false := by simpa using hn
        clear hstep hq hn
        go_wp2_with fail
        go_roundw
        case rel => exact ⟨k + 1, oa, oc, s, by omega, by go_num, rfl, by omega, HS2, HU⟩
        case measure => simp [intOf]; omega
      · have HS2 : Hid (s ++ [q] = (l.take (k + 1)).filter (fun y => decide (y ≠ x))) := hd (by rw [hstep, if_pos (by simpa using hn), HS.out])
        have hn' : (q != x) = true := by simpa using hn
        clear hstep hq hn
        have hs3 : s.length ≤ 2500000 := by omega
        go_wp2_with (at_builtin; refine wpList_app1 rfl _ _ rfl (.slice oa s.length oc) s q rfl HU.out rfl hs3 ?_)
        intro oa' oc' s2 w' hs2 h1
        have HU2 := hd h1
        have hs2l : s2.length ≤ k + 1 := by rw [hs2]; simp; omega
        rw [← hs2] at HS2
        clear h1 hs2
        go_wp2_with fail
        go_roundw
        case rel => exact ⟨k + 1, oa', oc', s2, by omega, by go_num, rfl, hs2l, HS2, HU2⟩
        case measure => simp [intOf]; omega
    · obtain rfl : k = l.length := by omega
      have HE : Hid (NewL (l.filter (fun y => decide (y ≠ x))) w (.returned (.slice oa s.length oc)) wr) := hd (by
        have h1 := HS.out
        rw [List.take_length] at h1
        rw [← h1]
        exact HU.out.new)
      go_wp2
      go_ret
      exact HE.out
/-- What l15Put has made of the first k: the number has been put, or not. -/
def PutS (l : List Int) (x : Int) (k : Nat) (put : Bool) (s : List Int) : Prop := if put then s ++ l.drop k = putL l x else s = l.take k ∧ ∀ y ∈ l.take k, ¬ x < y
theorem PutS.len {l : List Int} {x : Int} {k : Nat} {put : Bool} {s : List Int} (h : PutS l x k put s) (hk : k ≤ l.length) : s.length ≤ k + 1 := by
  unfold PutS at h
  cases put with
  | true =>
    simp at h
    have := congrArg List.length h
    rw [putL_len] at this
    simp at this
    omega
  | false =>
    simp at h
    rw [h.1]; simp; omega
theorem drop_at {l : List Int} {k : Nat} {q : Int} (hq : l[k]? = some q) : l.drop k = q :: l.drop (k + 1) := by
  obtain ⟨h1, rfl⟩ := List.getElem?_eq_some_iff.1 hq
  exact List.drop_eq_getElem_cons h1
theorem PutS.first {l : List Int} {x : Int} {k : Nat} {s : List Int} {q : Int} (h : PutS l x k false s) (hq : l[k]? = some q) (hx : x < q) : PutS l x (k + 1) true (s ++ [x] ++ [q]) := by
  unfold PutS at *
  simp at h
  rw [if_pos rfl, putL_at x l k q hq hx (by simpa using h.2), drop_at hq, h.1]
  simp
theorem PutS.later {l : List Int} {x : Int} {k : Nat} {s : List Int} {q : Int} (h : PutS l x k true s) (hq : l[k]? = some q) : PutS l x (k + 1) true (s ++ [q]) := by
  unfold PutS at *
  rw [if_pos rfl] at *
  rw [← h, drop_at hq]
  simp
theorem PutS.not {l : List Int} {x : Int} {k : Nat} {s : List Int} {q : Int} (h : PutS l x k false s) (hq : l[k]? = some q) (hx : ¬ x < q) : PutS l x (k + 1) false (s ++ [q]) := by
  unfold PutS at *
  obtain ⟨h1, rfl⟩ := List.getElem?_eq_some_iff.1 hq
  simp only [Bool.false_eq_true, if_false] at *
  refine ⟨by rw [h.1, List.take_succ_eq_append_getElem h1], fun y hy => ?_⟩
  rw [List.take_succ_eq_append_getElem h1, List.mem_append] at hy
  rcases hy with hy | hy
  · exact h.2 y hy
  · simp at hy; rw [hy]; exact hx
theorem PutS.end_yes {l : List Int} {x : Int} {s : List Int} (h : PutS l x l.length true s) : s = putL l x := by
  unfold PutS at h
  simpa using h
theorem PutS.end_no {l : List Int} {x : Int} {s : List Int} (h : PutS l x l.length false s) : s ++ [x] = putL l x := by
  unfold PutS at h
  simp at h
  rw [h.1, putL_none x l (by simpa using h.2)]
set_option maxHeartbeats 4000000 in
theorem l15Put_any (v : Value) (l : List Int) (b : List Nat) (x : Int) (w : World) (h : OIntS w v l b) (hl : l.length ≤ 2000000) :
    Calls Try.prog 70 #[v, .int .i64 x] w fun e w' => NewL (putL l x) w e w' := by
  have HR := hd (so_cases h)
  obtain ⟨a, c, rfl⟩ := gv_IntS.slice h
  clear h
  go_enter Try.func70, Try.ntmps70
  go_wp2_with fail
  have HU0 := hd (Und.start w)
  obtain ⟨V, hV⟩ : ∃ V, w.alloc (.cells #[] 3) = V := ⟨_, rfl⟩
  rw [hV] at HU0 ⊢
  clear hV
  go_loopw [5, 6, 7] (fun o p i wr => ∃ (k : Nat) (oa : Option Addr) (oc : Nat) (s : List Int) (put : Bool), k ≤ l.length ∧ i = .int .i64 k ∧ o = .slice oa s.length oc ∧ p = .bool put ∧ s.length ≤ k + 1 ∧ Hid (PutS l x k put s) ∧ Hid (Und w (.slice oa s.length oc) s wr)) (fun _ _ i _ => l.length - (intOf i).toNat)
  case atStart => exact ⟨0, _, 0, [], false, Nat.zero_le _, rfl, rfl, rfl, by simp, hd (by simp [PutS]), HU0⟩
  case round =>
    clear HU0
    obtain ⟨k, oa, oc, s, put, hk, rfl, rfl, rfl, hsk, HS, HU⟩ := hrel
    by_cases hlt : k < l.length
    · obtain ⟨q, hq⟩ : ∃ q, l[k]? = some q := ⟨l[k], by simp [hlt]⟩
      obtain ⟨g, hcw, hg, rfl⟩ : ∃ g, w.cell? ⟨g, k, none⟩ = some (.int .i64 q) ∧ g < w.heap.size ∧ a = some ⟨g, 0, none⟩ := by
        rcases HR.out with ⟨hh, h0, _⟩ | ⟨g, cap, hh, _, hg, _, hc⟩
        · rw [h0] at hlt; simp at hlt
        · simp at hh; exact ⟨g, hc k q hq, hg, hh.1⟩
      have HCW := hd (fun (X : World) (hX : Below w.heap.size w X) => (hX.cell (p := ⟨g, k, none⟩) hg).trans hcw)
      have c0 := HCW.out wr HU.out.2
      have hk0 : (0 : Int) ≤ k := by omega
      have hk1 : (k : Int) < l.length := by omega
      have hs3 : s.length ≤ 2500000 := by omega
      clear hcw
      cases put with
      | true =>
        have HS2 : Hid (PutS l x (k + 1) true (s ++ [q])) := hd (HS.out.later hq)
        clear hq
        go_wp2_with (at_builtin; refine wpList_app1 rfl _ _ rfl (.slice oa s.length oc) s q rfl HU.out rfl hs3 ?_)
        intro oa' oc' s2 w' hs2 h1
        have HU2 := hd h1
        rw [← hs2] at HS2
        clear h1 hs2
        go_wp2_with fail
        go_roundw
        case rel => exact ⟨k + 1, oa', oc', s2, true, by omega, by go_num, rfl, rfl, HS2.out.len (by omega), HS2, HU2⟩
        case measure => simp [intOf]; omega
      | false =>
        by_cases hx : x < q
        · have HS2 : Hid (PutS l x (k + 1) true (s ++ [x] ++ [q])) := hd (HS.out.first hq hx)
          have hx' : decide (x < q) = true := by simp [hx]
          clear hq hx
          go_wp2_with (at_builtin; refine wpList_app1 rfl _ _ rfl (.slice oa s.length oc) s x rfl HU.out rfl hs3 ?_)
          intro oa' oc' s2 w' hs2 h1
          have HU2 := hd h1
          have hs4 : s2.length ≤ 2500000 := by rw [hs2]; simp; omega
          rw [← hs2] at HS2
          have c1 := HCW.out w' HU2.out.2
          clear h1 hs2 c0
          go_wp2_with (at_builtin; refine wpList_app1 rfl _ _ rfl (.slice oa' s2.length oc') s2 q rfl HU2.out rfl hs4 ?_)
          intro oa3 oc3 s3 w3 hs3 h1
          have HU3 := hd h1
          rw [← hs3] at HS2
          clear h1 hs3 c1
          go_wp2_with fail
          go_roundw
          case rel => exact ⟨k + 1, oa3, oc3, s3, true, by omega, by go_num, rfl, rfl, HS2.out.len (by omega), HS2, HU3⟩
          case measure => simp [intOf]; omega
        · have HS2 : Hid (PutS l x (k + 1) false (s ++ [q])) := hd (HS.out.not hq hx)
          have hx' : decide (x < q) = false := by simp; omega
          clear hq hx
          go_wp2_with (at_builtin; refine wpList_app1 rfl _ _ rfl (.slice oa s.length oc) s q rfl HU.out rfl hs3 ?_)
          intro oa' oc' s2 w' hs2 h1
          have HU2 := hd h1
          rw [← hs2] at HS2
          clear h1 hs2
          go_wp2_with fail
          go_roundw
          case rel => exact ⟨k + 1, oa', oc', s2, false, by omega, by go_num, rfl, rfl, HS2.out.len (by omega), HS2, HU2⟩
          case measure => simp [intOf]; omega
    · obtain rfl : k = l.length := by omega
      have hs3 : s.length ≤ 2500000 := by omega
      cases put with
      | true =>
        have HE : Hid (NewL (putL l x) w (.returned (.slice oa s.length oc)) wr) := hd (by
          rw [← HS.out.end_yes]
          exact HU.out.new)
        go_wp2
        go_ret
        exact HE.out
      | false =>
        have HS2 := hd HS.out.end_no
        go_wp2_with (at_builtin; refine wpList_app1 rfl _ _ rfl (.slice oa s.length oc) s x rfl HU.out rfl hs3 ?_)
        intro oa' oc' s2 w' hs2 h1
        have HE : Hid (NewL (putL l x) w (.returned (.slice oa' s2.length oc')) w') := hd (by
          rw [← HS2.out, ← hs2]
          exact h1.new)
        clear h1
        go_wp2
        go_ret
        exact HE.out
end Go.Proofs.Ytpgigoddjidfdaa.BuS
