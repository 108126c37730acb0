/- What impl's lines hands to a loop: the lines of a text, one by one, each with its number. Condition: the library's MaxLen is a number. -/
import Derived.Test.YteamkpjlcflkcaaDoorSplM
import Derived.Test.YteamkpjlcflkcaaDoorFormT
import Derived.RangeFuncNested
import Derived.RangeFuncBound
import Derived.RangeFuncCalls
import Derived.RangeFuncLeaves
import Derived.RangeFuncBox
import Derived.Shelf.Abstract
import Derived.Shelf.RegionOpen
import Derived.WalkKit
import Derived.OwnWalkIn
import Derived.TacticsInMore
import Derived.LoopNIn
import Derived.LoopIn
namespace Go.Proofs.YteamkpjlcflkcaaDoor.IterI
open Go.RowKit Go.Shelf Num AsmM SplM FormT
attribute [local go_sem] Oper.semAt_some
set_option linter.unusedVariables false
set_option linter.unusedSimpArgs false

/-- What one round is handed: a number and a line. -/
abbrev NL := Nat × List UInt8
/-- A line as it is handed over. -/
def cl (x : NL) : List UInt8 := x.2.take 1048576
def encs (x : NL) : Array Value := #[.int .i64 x.1, .string ⟨(cl x).toArray⟩]
/-- Lines with their numbers from m + 1 on. -/
def nlF : Nat → List (List UInt8) → List NL
  | _, [] => []
  | m, l :: ls => (m + 1, l) :: nlF (m + 1) ls
theorem nl_len (m : Nat) (ls : List (List UInt8)) : (nlF m ls).length = ls.length := by
  induction ls generalizing m with
  | nil => rfl
  | cons l ls ih => simp [nlF, ih]
theorem nl_cl (ls : List (List UInt8)) (h : ∀ x ∈ ls, x.length ≤ 1048576) : ∀ m, (nlF m ls).map cl = ls := by
  induction ls with
  | nil => intro m; rfl
  | cons l ls ih =>
    intro m
    rw [nlF, List.map_cons, ih (fun x hx => h x (List.mem_cons_of_mem _ hx))]
    congr 1
    exact List.take_of_length_le (h l (by simp))
theorem nl_num (ls : List (List UInt8)) : ∀ (m k : Nat) (x : NL), (nlF m ls)[k]? = some x → x.1 = m + k + 1 := by
  induction ls with
  | nil => intro m k x h; simp [nlF] at h
  | cons l ls ih =>
    intro m k x h
    cases k with
    | zero => simp [nlF] at h; rw [← h]
    | succ k => simp [nlF] at h; have := ih (m + 1) k x h; omega

def strLen : Value → Nat
  | .string b => b.size
  | _ => 0
theorem strLen_mk (l : List UInt8) : strLen (.string ⟨l.toArray⟩) = l.length := by show l.toArray.size = _; simp

set_option maxHeartbeats 400000 in
theorem lines_any (s : ByteArray) (w : World) :
    Calls Tryd.prog 27 #[.string s] w fun e w' => e = .returned (.func (.func 49) #[] #[.pointer (some ⟨w.heap.size, 0, none⟩)]) ∧ w' = w.alloc (.cells #[.string s] 9) := by
  go_enter Tryd.func27, Tryd.ntmps27
  go_wp2
  go_ret
  exact ⟨rfl, rfl⟩

set_option maxRecDepth 100000 in
set_option maxHeartbeats 1000000 in
theorem iter_in (n : Nat) (hn : 1 ≤ n) (l Bn n₀ : Nat) (t : List UInt8) (ht : t.length ≤ 1048576) (hsm : ∀ x ∈ lines t, x.length ≤ 1048576) (J Jx : List NL → World → Prop)
    (W : World) (hJa : AbidesFrom W.heap.size J) (hg : 1 < n₀)
    (hY : ∀ pre x W, J pre W → pre.length < (lines t).length → YieldAt Fence.wide (n - 1) Tryd.prog l (encs x) W fun e W' =>
      (e = .returned (.bool true) ∧ J (pre ++ [x]) W' ∧ Below n₀ W W') ∨ (e = .returned (.bool false) ∧ Jx (pre ++ [x]) W'))
    (hBn : W.cell? ⟨Bn, 0, none⟩ = some (.string ⟨t.toArray⟩)) (hm : ∃ m, W.cell? ⟨1, 0, none⟩ = some (.int .i64 m)) (h0 : J [] W) :
    CallsIn Fence.wide n Tryd.prog 49 #[.func (.yield l) #[] #[], .pointer (some ⟨Bn, 0, none⟩)] W fun e W' => (∃ v, e = .returned v) ∧
      ((∃ ys, ys = nlF 0 (lines t) ∧ J ys W') ∨ (∃ pre, pre <+: nlF 0 (lines t) ∧ Jx pre W')) := by
  have hY' := hd hY
  have hJ' := hd hJa
  have hsm' := hd hsm
  clear hY hJa hsm
  refine callsIn_of_wp Tryd.func49 rfl trivial ?_ rfl
  simp only [Tryd.ntmps49, List.size_toArray, List.length_cons, List.length_nil, Nat.reduceAdd, Nat.reduceSub, Array.replicate_succ, Array.replicate_zero, List.push_toArray, List.append_toArray, List.nil_append, List.cons_append]
  gi_wp2
  gi_loopw [3, 4] (fun rv nv wr => ∃ (k : Nat) (pre : List NL) (r : List UInt8), rv = .string ⟨r.toArray⟩ ∧ nv = .int .i64 ((k : Int) + 1) ∧ pre.length = k ∧ r.length ≤ 1048576 ∧ Hid (pre ++ nlF k (lines r) = nlF 0 (lines t)) ∧ k ≤ 1048577 ∧ (∃ m, wr.cell? ⟨1, 0, none⟩ = some (.int .i64 m)) ∧ Hid (J pre wr))
    (fun rv _ _ => strLen rv)
  case atStart => exact ⟨0, [], t, rfl, rfl, rfl, ht, hd (by simp), by omega, hm, hd h0⟩
  case round =>
    obtain ⟨k, pre, r, rfl, rfl, hpl, hrl, hpr, hk, ⟨m, hm1⟩, hJs⟩ := hrel
    by_cases hr : r = []
    · subst hr
      have hend : Hid (pre = nlF 0 (lines t)) := hd (by rw [← hpr.out, lines_nil]; simp [nlF])
      clear hpr
      gi_wp2
      go_end0
      exact ⟨⟨_, rfl⟩, .inl ⟨pre, hend.out, hJs.out⟩⟩
    · obtain ⟨hl1, hl2, hl3⟩ := lines_step r hr
      have hcut := hd (Tryd.strings_Cut ⟨r.toArray⟩ ⟨#[10]⟩ m wr (by show r.toArray.size < _; simp; omega) hm1)
      rw [show (⟨r.toArray⟩ : ByteArray).data.toList = r by simp, show (⟨#[10]⟩ : ByteArray).data.toList = [10] from rfl] at hcut
      have hne : ((⟨r.toArray⟩ : ByteArray).toList != []) = true := by rw [ByteArray.toList_eq]; simpa using hr
      have hne2 : r.isEmpty = false := by simpa using hr
      generalize Lib.cut r [10] = p at *
      obtain ⟨a, b, ok⟩ := p
      simp only at hcut hl1 hl2 hl3
      have henc : encs (k + 1, a) = #[.int .i64 ((k : Int) + 1), .string ⟨a.toArray⟩] := by
        unfold encs cl
        simp only [List.take_of_length_le (show a.length ≤ 1048576 by omega)]
        rfl
      have hpr2 : Hid ((pre ++ [(k + 1, a)]) ++ nlF (k + 1) (lines b) = nlF 0 (lines t)) := hd (by rw [← hpr.out, hl1]; simp [nlF])
      have hlen : pre.length < (lines t).length := by
        have := congrArg List.length hpr.out
        rw [hl1] at this
        simp only [List.length_append, nl_len, List.length_cons] at this
        omega
      have hlt : (lines t).length ≤ 1048577 := Nat.le_trans (lines_len t) (by omega)
      have hk1 : k + 1 ≤ 1048577 := by omega
      clear hpr hl1 hr
      gi_wp2_with (refine ⟨trivial, ?_⟩; gi_at_call 50; refine (callsIn_wide.2 hcut.out).mono ?_; rintro e w' ⟨rfl, d, rfl⟩; have hJd : J pre (wr.drewN d) := hJ'.out pre wr _ none hJs.out ⟨rfl, rfl, rfl, Nat.le_refl _, fun _ _ _ => rfl⟩ (fun r e => by cases e); have hYd := hY'.out pre (k + 1, a) (wr.drewN d) hJd hlen; rw [henc] at hYd; obtain ⟨fn, tmps, assign, body, hy, hR⟩ := hYd)
      refine hR.mono ?_
      rintro e W3 (⟨rfl, hJ3, hk3⟩ | ⟨rfl, hJx3⟩)
      · have hm3 : W3.cell? ⟨1, 0, none⟩ = some (.int .i64 m) := (hk3.cell (p := ⟨1, 0, none⟩) hg).trans hm1
        clear hy hR
        gi_wp2
        go_roundw
        case rel => exact ⟨k + 1, pre ++ [(k + 1, a)], b, rfl, by go_num, by simp; omega, by omega, hpr2, hk1, ⟨m, hm3⟩, hd hJ3⟩
        case measure => rw [strLen_mk, strLen_mk]; exact hl2
      · clear hy hR
        gi_wp2
        refine bodyPost_ret (results_none rfl _ _ _) rfl ?_
        exact ⟨⟨_, rfl⟩, .inr ⟨pre ++ [(k + 1, a)], ⟨nlF (k + 1) (lines b), hpr2.out⟩, hJx3⟩⟩

/-- What lines hands back, as a loop takes it. -/
theorem lines_stops (n : Nat) (hn : 1 ≤ n) (Bn n₀ : Nat) (t : List UInt8) (ht : t.length ≤ 1048576) (hsm : ∀ x ∈ lines t, x.length ≤ 1048576) (w : World) (hBn : Bn < w.heap.size) (hn₀ : n₀ ≤ w.heap.size) (hg : 1 < n₀)
    (hc : w.cell? ⟨Bn, 0, none⟩ = some (.string ⟨t.toArray⟩)) (hm : ∃ m, w.cell? ⟨1, 0, none⟩ = some (.int .i64 m)) :
    SeqStopsK Fence.wide n Tryd.prog 49 #[.pointer (some ⟨Bn, 0, none⟩)] encs (Below n₀) (fun ys => ys = nlF 0 (lines t)) (fun pre => pre <+: nlF 0 (lines t)) (lines t).length w := fun l J Jx W hW hJa _ hY h0 => by
  obtain ⟨m, hm⟩ := hm
  exact iter_in n hn l Bn n₀ t ht hsm J Jx W hJa hg hY ((hW.cell (p := ⟨Bn, 0, none⟩) hBn).trans hc) ⟨m, (hW.cell (p := ⟨1, 0, none⟩) (World.block_lt_of_cell? w _ hm)).trans hm⟩ h0

end Go.Proofs.YteamkpjlcflkcaaDoor.IterI
