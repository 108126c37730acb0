/- What l1Spoil (all its ways) and DrawReadVar answer, as functions of the code's bytes. Condition: the code has at most 1048576 bytes. -/
import Derived.Test.YteamkpjlcflkcaaDoorRows
import Derived.Test.YteamkpjlcflkcaaDoorNum
import Derived.Test.YteamkpjlcflkcaaDoorDraw
import Derived.Test.YteamkpjlcflkcaaDoorDrawN
import Derived.Test.YteamkpjlcflkcaaDoorDrawR
import Derived.Test.YteamkpjlcflkcaaDoorDrawS
import Derived.WalkKit
import Derived.WalkSpells
import Derived.Handy
import Derived.BigQuiet
import Derived.Deep.QuietTactic
import Derived.Deep.RegionWith
namespace Go.Proofs.YteamkpjlcflkcaaDoor.DrawT
open Go.RowKit Num Draw DrawN DrawR DrawS
set_option linter.unusedVariables false
set_option linter.unusedSimpArgs false

set_option maxRecDepth 100000 in
set_option maxHeartbeats 2000000 in
theorem spoil_any (w : World) (g : Nat) (a : Option Addr) (len cap : Nat) (cs : List UInt8) (i : Nat) (h : Int) (s : ByteArray) (c : Cur w g a len cap cs i h) (hs : s.size ≤ 1000) :
    Calls Tryd.prog 36 #[.pointer (some ⟨g, 0, none⟩), .string s] w fun e w' => e = .returned (.string ⟨(sL cs i h s.data.toList).toArray⟩) ∧ w.grownBy w' (some g) := by
  by_cases hs0 : s.size = 0
  · have hnil : s.data.toList = [] := List.eq_nil_of_length_eq_zero (by simpa using hs0)
    have e1 : sL cs i h s.data.toList = xL cs i h 3 := by unfold sL; rw [if_pos hnil]
    have C1 := hd (text_any w g a len cap cs i h 3 c (by omega) (by omega))
    rw [e1]
    clear e1 hnil c
    generalize xL cs i h 3 = l at *
    go_enter Tryd.func36, Tryd.ntmps36
    go_wp2_with fail
    refine C1.out.mono ?_
    rintro e w1 ⟨rfl, t1⟩
    go_wp2
    go_ret
    exact ⟨rfl, t1.2⟩
  · have hsl : s.data.toList.length = s.size := by simp
    have hnn : ¬ s.data.toList = [] := by
      intro e
      rw [e] at hsl
      exact hs0 hsl.symm
    have hse : ((s.size : Int) == 0) = false := by rw [beq_eq_false_iff_ne]; omega
    obtain ⟨k, hk⟩ : ∃ k : Nat, lV cs i h s.size = k := ⟨(lV cs i h s.size).toNat, by have := lV_bd cs i h s.size; omega⟩
    have hks : k < s.size := by have := (lV_bd cs i h s.size).2 (by omega); omega
    have C1 := hd (below_any w g a len cap cs i h s.size c (by omega))
    have C2 := hd (fun w1 c => below_any w1 g a len cap cs (lI cs i s.size) (lH h s.size) 4 c (by omega))
    have C3 := hd (fun w1 c => byte_any w1 g a len cap cs (lI cs (lI cs i s.size) 4) (lH (lH h s.size) 4) c)
    have C4 := hd (fun w1 c => below_any w1 g a len cap cs (lI cs (lI cs i s.size) 4) (lH (lH h s.size) 4) 255 c (by omega))
    have b3 := bV_bd cs (lI cs (lI cs i s.size) 4) (lH (lH h s.size) 4)
    have b4 := lV_bd cs (lI cs (lI cs i s.size) 4) (lH (lH h s.size) 4) 255
    have b4b := b4.2 (by omega)
    have b4a := b4.1
    have b2 := lV_bd cs (lI cs i s.size) (lH h s.size) 4
    clear b4 c
    unfold sL
    rw [if_neg hnn]
    simp only [hsl, hk, Int.toNat_natCast]
    rw [hk] at C1
    clear hk hnn hsl
    generalize lI cs (lI cs i s.size) 4 = i2 at *
    generalize lH (lH h s.size) 4 = h2 at *
    generalize lV cs (lI cs i s.size) (lH h s.size) 4 = q at *
    generalize bV cs i2 h2 = x at *
    generalize lV cs i2 h2 255 = y at *
    generalize lI cs i s.size = i1 at *
    generalize lH h s.size = h1 at *
    by_cases q0 : q = 0
    · subst q0
      rw [if_pos rfl]
      go_enter Tryd.func36, Tryd.ntmps36
      go_wp2_with fail
      refine C1.out.mono ?_
      rintro e w1 ⟨rfl, t1⟩
      have T1 := hd t1
      clear t1
      go_wp2_with fail
      refine (C2.out _ T1.out.1).mono ?_
      rintro e w2 ⟨rfl, t2⟩
      have T2 := hd t2
      clear t2
      go_wp2_with fail
      go_quiet (fail)
      go_wp2
      go_ret
      exact ⟨by rw [← cut0 s k (by omega)]; rfl, grown_trans (grown_trans T1.out.2.1 T2.out.2.1) (grown_drewN _ _ _)⟩
    · have q0b : (q == 0) = false := by rw [beq_eq_false_iff_ne]; exact q0
      rw [if_neg q0]
      by_cases q1 : q = 1
      · subst q1
        rw [if_pos rfl]
        clear q0 q0b
        have HB3 : Hid (Value.int .u8 (IntKind.u8.wrap x) = bc (UInt8.ofNat x.toNat)) := hd (by rw [IntKind.wrap_u8]; simp [bc]; omega)
        have HB4 : Hid (Value.int .u8 x = bc (UInt8.ofNat x.toNat)) := hd (by simp [bc]; omega)
        generalize UInt8.ofNat x.toNat = b at *
        go_enter Tryd.func36, Tryd.ntmps36
        go_wp2_with fail
        refine C1.out.mono ?_
        rintro e w1 ⟨rfl, t1⟩
        have T1 := hd t1
        clear t1
        go_wp2_with fail
        refine (C2.out _ T1.out.1).mono ?_
        rintro e w2 ⟨rfl, t2⟩
        have T2 := hd t2
        clear t2
        go_wp2_with fail
        go_region_with (go_at_call 57; refine (C3.out _ (Cur.drew T2.out.1)).mono ?_; rintro e w3 ⟨rfl, t3⟩; have T3 := hd t3; have hcv := conv_one w3 _ b HB3.out; have hcv2 := conv_one w3 _ b HB4.out; clear t3)
        all_goals
          go_wp2
          go_ret
          exact ⟨by rw [← cut1 s k b]; rfl, grown_trans (grown_trans (grown_trans T1.out.2.1 T2.out.2.1) (To.drew0 T3.out).2.1) (World.grownBy_alloc w3 _ _)⟩
      · have q1b : (q == 1) = false := by rw [beq_eq_false_iff_ne]; exact q1
        rw [if_neg q1]
        by_cases q2 : q = 2
        · subst q2
          rw [if_pos rfl]
          clear q0 q0b q1 q1b
          go_enter Tryd.func36, Tryd.ntmps36
          go_wp2_with fail
          refine C1.out.mono ?_
          rintro e w1 ⟨rfl, t1⟩
          have T1 := hd t1
          clear t1
          go_wp2_with fail
          refine (C2.out _ T1.out.1).mono ?_
          rintro e w2 ⟨rfl, t2⟩
          have T2 := hd t2
          clear t2
          go_wp2
          go_ret
          exact ⟨by rw [← cut2 s k]; rfl, grown_trans T1.out.2.1 T2.out.2.1⟩
        · have q2b : (q == 2) = false := by rw [beq_eq_false_iff_ne]; exact q2
          rw [if_neg q2]
          exact spoil_turn w g a len cap cs i1 i2 h1 h2 s k q x y hs hks hse q0b q1b q2b b4a b4b C1.out C2.out C4.out

end Go.Proofs.YteamkpjlcflkcaaDoor.DrawT
