/- What DrawReadVar answers, as functions of the code's bytes. Condition: the code has at most 1048576 bytes. -/
import Derived.Test.YtghjgcobkookcaaDoorRows
import Derived.Test.YtghjgcobkookcaaDoorNum
import Derived.Test.YtghjgcobkookcaaDoorDraw
import Derived.Test.YtghjgcobkookcaaDoorDrawN
import Derived.Test.YtghjgcobkookcaaDoorDrawR
import Derived.Test.YtghjgcobkookcaaDoorDrawS
import Derived.Test.YtghjgcobkookcaaDoorDrawT
import Derived.Test.YtghjgcobkookcaaDoorVarC
import Derived.WalkKit
import Derived.WalkSpells
import Derived.Handy
import Derived.BigQuiet
import Derived.Deep.QuietTactic
import Derived.Deep.RegionWith
namespace Go.Proofs.YtghjgcobkookcaaDoor.DrawU
open Go.RowKit Num Draw DrawN DrawR DrawS DrawT
set_option linter.unusedVariables false
set_option linter.unusedSimpArgs false

/-- What DrawReadVar answers. -/
def rvL (cs : List UInt8) : List UInt8 :=
  if lV cs (xI cs (nI cs 0 (h0 cs)) (nH cs 0 (h0 cs)) 4) (xH cs (nI cs 0 (h0 cs)) (nH cs 0 (h0 cs)) 4) 4 = 0 then
    sL cs (lI cs (xI cs (nI cs 0 (h0 cs)) (nH cs 0 (h0 cs)) 4) 4) (lH (xH cs (nI cs 0 (h0 cs)) (nH cs 0 (h0 cs)) 4) 4) (VarC.out (nV cs 0 (h0 cs)) ++ xL cs (nI cs 0 (h0 cs)) (nH cs 0 (h0 cs)) 4)
  else VarC.out (nV cs 0 (h0 cs)) ++ xL cs (nI cs 0 (h0 cs)) (nH cs 0 (h0 cs)) 4
theorem vb_le (f n : Nat) : (VarC.vb f n).length ≤ f := by
  induction f generalizing n with
  | zero => simp [VarC.vb]
  | succ f ih => unfold VarC.vb; split <;> simp; exact ih _
theorem out_le (n : Int) : (VarC.out n).length ≤ 7 := by
  unfold VarC.out; split
  · exact vb_le 7 _
  · simp

set_option maxRecDepth 100000 in
set_option maxHeartbeats 400000 in
theorem drawReadVar_any (w : World) (a : Option Addr) (len cap : Nat) (cs : List UInt8) (c : DrawR.Code w a len cs) :
    Calls Tryd.prog 17 #[.slice a len cap] w fun e w' => e = .returned (.string ⟨(rvL cs).toArray⟩) ∧ Below w.heap.size w w' := by
  have C1 := hd (new_any w a len cap cs c)
  have C2 := hd (fun w1 c => num_any w1 w.heap.size a len cap cs 0 (h0 cs) c)
  clear c
  unfold rvL
  generalize nV cs 0 (h0 cs) = n at *
  have hl1 := out_le n
  generalize nI cs 0 (h0 cs) = i1 at *
  generalize nH cs 0 (h0 cs) = h1 at *
  have C3 := hd (fun w1 c => text_any w1 w.heap.size a len cap cs i1 h1 4 c (by omega) (by omega))
  have hl2 := xL_length cs i1 h1 4 (by omega)
  generalize xL cs i1 h1 4 = l at *
  generalize xI cs i1 h1 4 = i2 at *
  generalize xH cs i1 h1 4 = h2 at *
  have C4 := hd (fun w1 c => once_any w1 w.heap.size a len cap cs i2 h2 4 c (by omega))
  generalize lV cs i2 h2 4 = q at *
  generalize lI cs i2 4 = i3 at *
  generalize lH h2 4 = h3 at *
  have C5 := hd (fun w1 s c hs => spoil_any w1 w.heap.size a len cap cs i3 h3 s c hs)
  have CV := hd (fun w1 => VarC.spec_any n w1)
  generalize VarC.out n = v at *
  by_cases hq : q = 0
  · rw [if_pos hq]
    have hqb : (q == 0) = true := by rw [beq_iff_eq]; exact hq
    clear hq
    obtain ⟨r, hr⟩ : ∃ r, sL cs i3 h3 (v ++ l) = r := ⟨_, rfl⟩
    rw [hr]
    have HR := hd hr
    clear hr
    go_enter Tryd.func17, Tryd.ntmps17
    go_wp2_with fail
    refine C1.out.mono ?_
    rintro e w1 ⟨rfl, c1, b1⟩
    have T1 := hd (And.intro c1 b1)
    clear c1 b1
    go_wp2_with fail
    refine (C2.out _ T1.out.1).mono ?_
    rintro e w2 ⟨rfl, t2⟩
    have T2 := hd t2
    clear t2
    go_wp2_with fail
    refine (CV.out _).mono ?_
    rintro e w3 ⟨rfl, b3⟩
    have T3 := hd b3
    clear b3
    go_wp2_with fail
    refine (C3.out _ (Cur.below T2.out.1 T3.out (Cur.lt T2.out.1) (Cur.bel T2.out.1))).mono ?_
    rintro e w4 ⟨rfl, t4⟩
    have T4 := hd t4
    clear t4
    go_wp2_with fail
    refine (C4.out _ T4.out.1).mono ?_
    rintro e w5 ⟨rfl, t5⟩
    have T5 := hd t5
    clear t5
    go_wp2_with fail
    have B2 : Below w.heap.size w w2 := T1.out.2.grown T2.out.2 T1.out.2.size (by simp)
    have B3 : Below w.heap.size w w3 := B2.trans (T3.out.mono B2.size)
    have B4 : Below w.heap.size w w4 := B3.grown T4.out.2 B3.size (by simp)
    have B5 : Below w.heap.size w w5 := B4.grown T5.out.2.1 B4.size (by simp)
    have hda : ((⟨v.toArray⟩ : ByteArray) ++ ⟨l.toArray⟩).data.toList = v ++ l := by rw [ByteArray.mk_append_mk]
    refine (C5.out _ _ T5.out.1 (by rw [ByteArray.mk_append_mk]; show ((v ++ l).toArray).size ≤ 1000; simp; omega)).mono ?_
    rintro e w6 ⟨rfl, g6⟩
    rw [hda, HR.out]
    have B6 := hd (B5.grown g6 B5.size (by simp))
    clear B2 B3 B4 B5 g6 hda
    go_wp2
    go_ret
    exact ⟨rfl, B6.out⟩
  · rw [if_neg hq]
    have hqb : (q == 0) = false := by rw [beq_eq_false_iff_ne]; exact hq
    clear hq
    go_enter Tryd.func17, Tryd.ntmps17
    go_wp2_with fail
    refine C1.out.mono ?_
    rintro e w1 ⟨rfl, c1, b1⟩
    have T1 := hd (And.intro c1 b1)
    clear c1 b1
    go_wp2_with fail
    refine (C2.out _ T1.out.1).mono ?_
    rintro e w2 ⟨rfl, t2⟩
    have T2 := hd t2
    clear t2
    go_wp2_with fail
    refine (CV.out _).mono ?_
    rintro e w3 ⟨rfl, b3⟩
    have T3 := hd b3
    clear b3
    go_wp2_with fail
    refine (C3.out _ (Cur.below T2.out.1 T3.out (Cur.lt T2.out.1) (Cur.bel T2.out.1))).mono ?_
    rintro e w4 ⟨rfl, t4⟩
    have T4 := hd t4
    clear t4
    go_wp2_with fail
    refine (C4.out _ T4.out.1).mono ?_
    rintro e w5 ⟨rfl, t5⟩
    have T5 := hd t5
    clear t5
    have B2 : Below w.heap.size w w2 := T1.out.2.grown T2.out.2 T1.out.2.size (by simp)
    have B3 : Below w.heap.size w w3 := B2.trans (T3.out.mono B2.size)
    have B4 : Below w.heap.size w w4 := B3.grown T4.out.2 B3.size (by simp)
    have B5 : Below w.heap.size w w5 := B4.grown T5.out.2.1 B4.size (by simp)
    have B6 := hd B5
    clear B2 B3 B4 B5
    go_wp2
    go_ret
    exact ⟨by rw [← ByteArray.mk_append_mk]; rfl, B6.out⟩

end Go.Proofs.YtghjgcobkookcaaDoor.DrawU
