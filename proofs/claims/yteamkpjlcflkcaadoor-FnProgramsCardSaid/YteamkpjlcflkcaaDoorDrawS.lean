/- What l1Spoil and DrawReadVar answer, as functions of the code's bytes. Condition: the code has at most 1048576 bytes. -/
import Derived.Test.YteamkpjlcflkcaaDoorRows
import Derived.Test.YteamkpjlcflkcaaDoorNum
import Derived.Test.YteamkpjlcflkcaaDoorDraw
import Derived.Test.YteamkpjlcflkcaaDoorDrawN
import Derived.Test.YteamkpjlcflkcaaDoorDrawR
import Derived.WalkKit
import Derived.WalkSpells
import Derived.Handy
import Derived.BigQuiet
import Derived.Deep.QuietTactic
import Derived.Deep.RegionWith
namespace Go.Proofs.YteamkpjlcflkcaaDoor.DrawS
open Go.RowKit Num Draw DrawN DrawR
set_option linter.unusedVariables false
set_option linter.unusedSimpArgs false

set_option maxRecDepth 100000 in
set_option maxHeartbeats 4000000 in
theorem spoil_turn (w : World) (g : Nat) (a : Option Addr) (len cap : Nat) (cs : List UInt8) (i1 i2 : Nat) (h1 h2 : Int) (s : ByteArray) (k : Nat) (q x y : Int) (hs : s.size ≤ 1000) (hks : k < s.size) (hse : ((s.size : Int) == 0) = false)
    (q0b : (q == 0) = false) (q1b : (q == 1) = false) (q2b : (q == 2) = false) (b4a : 0 ≤ y) (b4b : y < 255)
    (c1 : Calls Tryd.prog 32 #[.pointer (some ⟨g, 0, none⟩), .int .i64 s.size] w fun e w' => e = .returned (.int .i64 k) ∧ To w g a len cap cs i1 h1 w')
    (c2 : ∀ w1, Cur w1 g a len cap cs i1 h1 → Calls Tryd.prog 32 #[.pointer (some ⟨g, 0, none⟩), .int .i64 4] w1 fun e w' => e = .returned (.int .i64 q) ∧ To w1 g a len cap cs i2 h2 w')
    (c4 : ∀ w1, Cur w1 g a len cap cs i2 h2 → Calls Tryd.prog 32 #[.pointer (some ⟨g, 0, none⟩), .int .i64 255] w1 fun e w' => e = .returned (.int .i64 y) ∧ To w1 g a len cap cs (lI cs i2 255) (lH h2 255) w') :
    Calls Tryd.prog 36 #[.pointer (some ⟨g, 0, none⟩), .string s] w fun e w' => e = .returned (.string ⟨(s.data.toList.take k ++ [dB ((s.data.toList.getD k 0).toNat : Int) y] ++ s.data.toList.drop (k + 1)).toArray⟩) ∧ w.grownBy w' (some g) := by
  have C1 := hd c1
  have C2 := hd c2
  have C4 := hd c4
  clear c1 c2 c4
  have hk1 : k + 1 ≤ s.size := hks
  have hk2 : (k : Int) + 1 ≤ s.size := by omega
  have hk3 : (0 : Int) ≤ (k : Int) + 1 := by omega
  have hwr3 : IntKind.i64.wrap ((k : Int) + 1) = (k : Int) + 1 := by rw [IntKind.wrap_i64]; omega
  have hsk := s[k].toNat_lt
  have hgd : s.data.toList.getD k 0 = s[k] := by rw [List.getD_eq_getElem?_getD, List.getElem?_eq_getElem (by simpa using hks)]; rfl
  rw [hgd]
  clear hgd
  have HB3 : Hid (Value.int .u8 (IntKind.u8.wrap (bits .xor .i64 (s[k].toNat : Int) (1 + y))) = bc (dB (s[k].toNat : Int) y)) := hd (dB_eq _ _)
  have HB4 : Hid (Value.int .u8 (IntKind.u8.wrap (bits .xor .i64 (IntKind.i64.wrap (s[k].toNat : Int)) (IntKind.i64.wrap (1 + y)))) = bc (dB (s[k].toNat : Int) y)) := hd (by
    rw [show IntKind.i64.wrap (s[k].toNat : Int) = s[k].toNat by rw [IntKind.wrap_i64]; omega, show IntKind.i64.wrap (1 + y) = 1 + y by rw [IntKind.wrap_i64]; omega]; exact dB_eq _ _)
  have HB5 : Hid (Value.int .u8 (bits .xor .i64 (s[k].toNat : Int) (1 + y) % 256) = bc (dB (s[k].toNat : Int) y)) := hd (by rw [← dB_eq, IntKind.wrap_u8])
  have HB6 : Hid (Value.int .u8 (IntKind.u8.wrap (bits .xor .i64 (s[k].toNat : Int) (IntKind.i64.wrap (1 + y)))) = bc (dB (s[k].toNat : Int) y)) := hd (by
    rw [show IntKind.i64.wrap (1 + y) = 1 + y by rw [IntKind.wrap_i64]; omega]; exact dB_eq _ _)
  have HB7 : Hid (Value.int .u8 (IntKind.u8.wrap (bits .xor .i64 (IntKind.i64.wrap (s[k].toNat : Int)) (1 + y))) = bc (dB (s[k].toNat : Int) y)) := hd (by
    rw [show IntKind.i64.wrap (s[k].toNat : Int) = s[k].toNat by rw [IntKind.wrap_i64]; omega]; exact dB_eq _ _)
  have hwr1 : IntKind.i64.wrap (s[k].toNat : Int) = s[k].toNat := by rw [IntKind.wrap_i64]; omega
  have hwr2 : IntKind.i64.wrap (1 + y) = 1 + y := by rw [IntKind.wrap_i64]; omega
  generalize dB (s[k].toNat : Int) y = b at *
  go_enter Tryd.func36, Tryd.ntmps36
  go_wp2_with fail
  refine C1.out.mono ?_
  rintro e w1 ⟨rfl, t1⟩
  have T1 := hd t1
  clear t1
  go_wp2_with fail
  refine (C2.out _ T1.out.1).mono ?_
  rintro e w2 ⟨rfl, t2⟩
  have T2 := hd t2
  clear t2
  go_wp2_with fail
  go_region_with (go_at_call 32; refine (C4.out _ (Cur.drew T2.out.1)).mono ?_; rintro e w3 ⟨rfl, t3⟩; have T3 := hd t3; have hcv := conv_one w3 _ b HB3.out; have hcv2 := conv_one w3 _ b HB4.out; have hcv3 := conv_one w3 _ b HB5.out; have hcv4 := conv_one w3 _ b HB6.out; have hcv5 := conv_one w3 _ b HB7.out; clear t3)
  all_goals
    go_wp2
    go_ret
    exact ⟨by rw [← cut3 s k b]; rfl, grown_trans (grown_trans (grown_trans T1.out.2.1 T2.out.2.1) (To.drew0 T3.out).2.1) (World.grownBy_alloc w3 _ _)⟩


end Go.Proofs.YteamkpjlcflkcaaDoor.DrawS
