/- What spec's l4Reg and l4Form answer. Condition: none. -/
import Derived.Test.YteamkpjlcflkcaaDoorAsmM
import Derived.WalkKit
import Derived.WalkSpells
import Derived.Handy
namespace Go.Proofs.YteamkpjlcflkcaaDoor.AsmB
open Go.RowKit Num AsmM
set_option linter.unusedVariables false
set_option linter.unusedSimpArgs false

theorem form_1 : form [115, 101, 116] = (1, [114, 110]) := by decide
theorem form_2 : form [97, 100, 100] = (2, [114, 114, 114]) := by decide
theorem form_3 : form [115, 117, 98] = (3, [114, 114, 114]) := by decide
theorem form_4 : form [108, 111, 97, 100] = (4, [114, 114]) := by decide
theorem form_5 : form [115, 116, 111, 114, 101] = (5, [114, 114]) := by decide
theorem form_6 : form [106, 117, 109, 112] = (6, [110]) := by decide
theorem form_7 : form [122, 101, 114, 111] = (7, [114, 110]) := by decide
theorem form_8 : form [115, 121, 115] = (8, [110]) := by decide
theorem str_of {s : ByteArray} {l : List UInt8} (h : s.data.toList = l) : s = ⟨l.toArray⟩ := by
  obtain ⟨d⟩ := s
  have : d.toList = l := h
  rw [← this]
set_option maxHeartbeats 1000000 in
theorem form_any (s : ByteArray) (w : World) :
    Calls Tryd.prog 40 #[.string s] w fun e w' => e = .returned (.tuple #[.int .i64 ((form s.data.toList).1 : Int), .string ⟨(form s.data.toList).2.toArray⟩]) ∧ w = w' := by
  by_cases h1 : s.data.toList = [115, 101, 116]
  · obtain rfl := str_of h1
    have hf := form_1
    go_enter Tryd.func40, Tryd.ntmps40
    go_wp2
    go_ret2
    exact ⟨rfl, rfl⟩
  by_cases h2 : s.data.toList = [97, 100, 100]
  · obtain rfl := str_of h2
    have hf := form_2
    go_enter Tryd.func40, Tryd.ntmps40
    go_wp2
    go_ret2
    exact ⟨rfl, rfl⟩
  by_cases h3 : s.data.toList = [115, 117, 98]
  · obtain rfl := str_of h3
    have hf := form_3
    go_enter Tryd.func40, Tryd.ntmps40
    go_wp2
    go_ret2
    exact ⟨rfl, rfl⟩
  by_cases h4 : s.data.toList = [108, 111, 97, 100]
  · obtain rfl := str_of h4
    have hf := form_4
    go_enter Tryd.func40, Tryd.ntmps40
    go_wp2
    go_ret2
    exact ⟨rfl, rfl⟩
  by_cases h5 : s.data.toList = [115, 116, 111, 114, 101]
  · obtain rfl := str_of h5
    have hf := form_5
    go_enter Tryd.func40, Tryd.ntmps40
    go_wp2
    go_ret2
    exact ⟨rfl, rfl⟩
  by_cases h6 : s.data.toList = [106, 117, 109, 112]
  · obtain rfl := str_of h6
    have hf := form_6
    go_enter Tryd.func40, Tryd.ntmps40
    go_wp2
    go_ret2
    exact ⟨rfl, rfl⟩
  by_cases h7 : s.data.toList = [122, 101, 114, 111]
  · obtain rfl := str_of h7
    have hf := form_7
    go_enter Tryd.func40, Tryd.ntmps40
    go_wp2
    go_ret2
    exact ⟨rfl, rfl⟩
  by_cases h8 : s.data.toList = [115, 121, 115]
  · obtain rfl := str_of h8
    have hf := form_8
    go_enter Tryd.func40, Tryd.ntmps40
    go_wp2
    go_ret2
    exact ⟨rfl, rfl⟩
  have hf : Hid (form s.data.toList = (0, [])) := hd (by simp [form, h1, h2, h3, h4, h5, h6, h7, h8])
  replace h1 : (s.toList == [115, 101, 116]) = false := by rw [ByteArray.toList_eq]; simpa using h1
  replace h2 : (s.toList == [97, 100, 100]) = false := by rw [ByteArray.toList_eq]; simpa using h2
  replace h3 : (s.toList == [115, 117, 98]) = false := by rw [ByteArray.toList_eq]; simpa using h3
  replace h4 : (s.toList == [108, 111, 97, 100]) = false := by rw [ByteArray.toList_eq]; simpa using h4
  replace h5 : (s.toList == [115, 116, 111, 114, 101]) = false := by rw [ByteArray.toList_eq]; simpa using h5
  replace h6 : (s.toList == [106, 117, 109, 112]) = false := by rw [ByteArray.toList_eq]; simpa using h6
  replace h7 : (s.toList == [122, 101, 114, 111]) = false := by rw [ByteArray.toList_eq]; simpa using h7
  replace h8 : (s.toList == [115, 121, 115]) = false := by rw [ByteArray.toList_eq]; simpa using h8
  go_enter Tryd.func40, Tryd.ntmps40
  go_wp2
  go_ret2
  exact ⟨by rw [hf.out]; rfl, rfl⟩

theorem reg_no {l : List UInt8} (h : ¬ (l.length = 2 ∧ l.getD 0 0 = 114 ∧ 48 ≤ (l.getD 1 0).toNat ∧ (l.getD 1 0).toNat ≤ 51)) : reg l = -1 := if_neg h
theorem get_D (s : ByteArray) (k : Nat) (h : k < s.size) : s.data.toList.getD k 0 = s[k] := by
  rw [List.getD_eq_getElem?_getD, List.getElem?_eq_getElem (by simpa using h)]; rfl
set_option maxHeartbeats 1000000 in
theorem reg_any (s : ByteArray) (w : World) (hs : s.size ≤ 1048576) :
    Calls Tryd.prog 61 #[.string s] w fun e w' => e = .returned (.int .i64 (reg s.data.toList)) ∧ w = w' := by
  by_cases h2 : s.size = 2
  · have g0 := get_D s 0 (by omega)
    have g1 := get_D s 1 (by omega)
    have b0 := s[0].toNat_lt
    have b1 := s[1].toNat_lt
    have hh : s[0].toNat ≠ 114 ∨ (s[0].toNat = 114 ∧ s[1].toNat < 48) ∨ (s[0].toNat = 114 ∧ 48 ≤ s[1].toNat ∧ 51 < s[1].toNat) ∨ (s[0].toNat = 114 ∧ 48 ≤ s[1].toNat ∧ s[1].toNat ≤ 51) := by omega
    rcases hh with h | ⟨h, h'⟩ | ⟨h, h', h''⟩ | ⟨h, h', h''⟩
    · have HR := hd (reg_no (l := s.data.toList) (by rw [g0, g1]; rintro ⟨_, a, _⟩; rw [a] at h; simp at h))
      have k1 : ((s[0].toNat : Int) != 114) = true := by simp; omega
      clear g0 g1 h
      go_enter Tryd.func61, Tryd.ntmps61
      go_wp2
      go_ret
      exact ⟨by rw [HR.out]; rfl, rfl⟩
    · have HR := hd (reg_no (l := s.data.toList) (by rw [g0, g1]; omega))
      have k1 : (s[0].toNat : Int) = 114 := by omega
      have k2 : (s[1].toNat : Int) < 48 := by omega
      clear g0 g1 h h'
      go_enter Tryd.func61, Tryd.ntmps61
      go_wp2
      go_ret
      exact ⟨by rw [HR.out]; rfl, rfl⟩
    · have HR := hd (reg_no (l := s.data.toList) (by rw [g0, g1]; omega))
      have k1 : (s[0].toNat : Int) = 114 := by omega
      have k2 : (48 : Int) ≤ s[1].toNat := by omega
      have k3 : (51 : Int) < s[1].toNat := by omega
      clear g0 g1 h h' h''
      go_enter Tryd.func61, Tryd.ntmps61
      go_wp2
      go_ret
      exact ⟨by rw [HR.out]; rfl, rfl⟩
    · have HR : Hid (reg s.data.toList = (s[1].toNat : Int) - 48) := hd (by unfold reg; rw [g0, g1, if_pos ⟨by simpa using h2, UInt8.toNat.inj h, h', h''⟩])
      have k1 : (s[0].toNat : Int) = 114 := by omega
      have k2 : (48 : Int) ≤ s[1].toNat := by omega
      have k3 : (s[1].toNat : Int) ≤ 51 := by omega
      clear g0 g1 h h' h''
      go_enter Tryd.func61, Tryd.ntmps61
      go_wp2
      go_ret
      exact ⟨by rw [HR.out]; rfl, rfl⟩
  · have HR := hd (reg_no (l := s.data.toList) (by intro h; apply h2; simpa using h.1))
    have k0 : ((s.size : Int) != 2) = true := by simp; omega
    go_enter Tryd.func61, Tryd.ntmps61
    go_wp2
    go_ret
    exact ⟨by rw [HR.out]; rfl, rfl⟩

end Go.Proofs.YteamkpjlcflkcaaDoor.AsmB
