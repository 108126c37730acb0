/- What Crc (spec and impl) answers: 4294967295 less the sum; the program's makes new memory alone. Condition: impl's table of sixteen sums lies as the program's text lays it. -/
import Derived.Test.YtdjhdcchlfbanaaDoorRows
import Derived.Test.YtdjhdcchlfbanaaDoorCrcM
import Derived.WalkKit
import Derived.WalkSpells
import Derived.Handy
import Derived.Below
import Derived.Laws.BitsAllLaws
import Derived.Laws.BitsLemmas
import Derived.Lib.LaidTab
import Derived.Deep.RegionWith
import Derived.RegionTactic
import Derived.BigRegion
import Derived.Deep.RegionLaw
namespace Go.Proofs.YtdjhdcchlfbanaaDoor.CrcC
open Go.RowKit CrcM
set_option linter.unusedVariables false
set_option linter.unusedSimpArgs false

theorem hd {p : Prop} (h : p) : Hid p := h
def Tab (w : World) : Prop := Lib.TabIs Tryd.prog w "loop.example/g00781/impl.halfSums" .u32 (tab.map Int.ofNat)
theorem xor64 (a b : Nat) (ha : a < 4294967296) (hb : b < 4294967296) : bits .xor .i64 (a : Int) (b : Int) = ((a ^^^ b : Nat) : Int) := by
  have h1 : (BitVec.ofInt 64 (a : Int)).toNat = a := by rw [BitVec.ofInt_natCast, BitVec.toNat_ofNat]; exact Nat.mod_eq_of_lt (by omega)
  have h2 : (BitVec.ofInt 64 (b : Int)).toNat = b := by rw [BitVec.ofInt_natCast, BitVec.toNat_ofNat]; exact Nat.mod_eq_of_lt (by omega)
  show IntKind.i64.wrap ((BitVec.ofInt 64 (a : Int) ^^^ BitVec.ofInt 64 (b : Int)).toNat : Int) = _
  have h3 := xor_lt a b ha hb
  rw [BitVec.toNat_xor, h1, h2, IntKind.wrap_i64]
  omega

set_option maxHeartbeats 400000 in
theorem spec_any (s : ByteArray) (w : World) (hs : s.size ≤ 1048576) :
    Calls Tryd.prog 4 #[.string s] w fun e w' => e = .returned (.int .i64 (4294967295 - (sum s.data.toList : Int))) ∧ w = w' := by
  go_enter Tryd.func4, Tryd.ntmps4
  go_wp2
  go_loop [3, 4] (fun c i => ∃ k : Nat, k ≤ s.size ∧ i = .int .i64 k ∧ c = .int .i64 (sum (s.data.toList.take k) : Int)) (fun _ i => s.size - (intOf i).toNat)
  case atStart => exact ⟨0, Nat.zero_le _, rfl, rfl⟩
  case round =>
    obtain ⟨k, hk, rfl, rfl⟩ := hrel
    have hl := sum_lt (s.data.toList.take k)
    by_cases hlt : k < s.size
    · have HS := hd (sum_step s k hlt)
      have hb := s[k].toNat_lt
      have HX := hd (xor64 (sum (s.data.toList.take k)) s[k].toNat hl (by omega))
      have HL := hd (xor_lt (sum (s.data.toList.take k)) s[k].toNat hl (by omega))
      generalize sum (s.data.toList.take k) = c at *
      go_wp2_with fail
      go_loop [3, 5] (fun x j => ∃ m : Nat, m ≤ 8 ∧ j = .int .i64 m ∧ x = .int .i64 (hvN m (c ^^^ s[k].toNat) : Int)) (fun _ j => 8 - (intOf j).toNat)
      case atStart => exact ⟨0, Nat.zero_le _, rfl, by rw [HX.out]; rfl⟩
      case round =>
        obtain ⟨m, hm, rfl, rfl⟩ := hrel
        have hxl := hvN_lt m _ HL.out
        by_cases hm8 : m < 8
        · have HN := hd (hvN_snoc m (c ^^^ s[k].toNat))
          generalize hvN m (c ^^^ s[k].toNat) = x at *
          by_cases ho : x % 2 = 1
          · have ho' : (x : Int) % 2 = 1 := by omega
            have HH : Hid (hv x = (x / 2) ^^^ 2197175160) := hd (by unfold hv; rw [if_pos ho])
            have HX2 := hd (xor64 (x / 2) 2197175160 (by omega) (by omega))
            clear ho
            go_wp2
            go_round
            case rel => exact ⟨m + 1, by omega, by go_num, by rw [HN.out, HH.out, ← HX2.out]; rfl⟩
            case measure => simp [intOf]; omega
          · have ho' : (x : Int) % 2 = 0 := by omega
            have HH : Hid (hv x = (x / 2)) := hd (by unfold hv; rw [if_neg ho])
            clear ho
            go_wp2
            go_round
            case rel => exact ⟨m + 1, by omega, by go_num, by rw [HN.out, HH.out]; rfl⟩
            case measure => simp [intOf]; omega
        · obtain rfl : m = 8 := by omega
          go_wp2
          go_round
          case rel => exact ⟨k + 1, by omega, by go_num, by rw [HS.out]; rfl⟩
          case measure => simp [intOf]; omega
    · obtain rfl : k = s.size := by omega
      rw [show s.data.toList.take s.size = s.data.toList from List.take_of_length_le (by simp)] at *
      go_wp2
      go_ret
      exact ⟨rfl, rfl⟩

theorem gTab : Tryd.prog.globalNamed "loop.example/g00781/impl.halfSums" = some 0 := by kernel_rfl
theorem Tab.cell {w : World} (h : Tab w) (i : Nat) (hi : i < 16) : w.cell? ⟨0, i, none⟩ = some (.int .u32 (tab.getD i 0 : Int)) := by
  have := Lib.TabIs.cell h gTab i (by simp [tab]; omega)
  rw [this]
  have : ∀ k : Fin 16, (tab.map Int.ofNat).getD k.val 0 = (tab.getD k.val 0 : Int) := by decide +kernel
  rw [this ⟨i, hi⟩]
theorem Tab.size {w : World} (h : Tab w) : 0 < w.heap.size := World.block_lt_of_cell? _ _ (h.cell 0 (by omega))
theorem Tab.below {w w' : World} {B : Nat} (h : Tab w) (hB : 0 < B) (hb : Below B w w') : Tab w' := by
  unfold Tab Lib.TabIs World.var? at *
  rw [gTab] at *
  simp only [Option.bind_some] at *
  rw [hb.block 0 hB]
  exact h

set_option maxHeartbeats 400000 in
theorem take_any (b c h : Nat) (w : World) (hb : 0 < b) (hc : c < 4294967296) (hh : h < 16) (ht : Tab w) (hcell : w.cell? ⟨b, 0, none⟩ = some (.int .u32 (c : Int))) (hfree : w.frozen? ⟨b, 0, none⟩ = false) :
    Calls Tryd.prog 8 #[.pointer (some ⟨b, 0, none⟩), .int .u32 (h : Int)] w fun e w' => e = .returned (.tuple #[]) ∧ w'.cell? ⟨b, 0, none⟩ = some (.int .u32 (take4 c h : Int)) ∧ w'.frozen? ⟨b, 0, none⟩ = false ∧ Below b w w' := by
  have hq : (c ^^^ h) % 16 < 16 := Nat.mod_lt _ (by omega)
  have HT := hd (tab_lt _ hq)
  have ht1 := ht.cell _ hq
  have hx1 := u32_xor_nat c h hc (by omega)
  have HX := hd (show take4 c h = (c / 16) ^^^ tab.getD ((c ^^^ h) % 16) 0 from rfl)
  have HX2 := hd (u32_xor_nat (c / 16) (tab.getD ((c ^^^ h) % 16) 0) (by omega) HT.out)
  clear ht
  generalize c ^^^ h = x at *
  generalize tab.getD (x % 16) 0 = y at *
  have hm : (x : Int).tmod 16 = ((x % 16 : Nat) : Int) := by rw [Int.tmod_eq_emod_of_nonneg (by omega)]; omega
  go_enter Tryd.func8, Tryd.ntmps8
  go_wp2
  go_region
  all_goals
    go_end0
    refine ⟨rfl, ?_, ?_, ?_⟩
    · rw [HX.out, ← HX2.out]
      exact World.cell?_setCell_same _ _ _ hcell
    · simpa using hfree
    · exact ((Below.refl b w).setCell (p := ⟨b, 0, none⟩) (Nat.le_refl b) _).drew

set_option maxHeartbeats 400000 in
theorem total_any (b c : Nat) (w : World) (hc : c < 4294967296) (hcell : w.cell? ⟨b, 0, none⟩ = some (.int .u32 (c : Int))) :
    Calls Tryd.prog 9 #[.pointer (some ⟨b, 0, none⟩)] w fun e w' => e = .returned (.int .i64 (4294967295 - (c : Int))) ∧ w = w' := by
  go_enter Tryd.func9, Tryd.ntmps9
  go_wp2
  go_ret
  exact ⟨rfl, rfl⟩

set_option maxHeartbeats 400000 in
theorem each_any (s : ByteArray) (b : Nat) (w : World) (hs : s.size ≤ 1048576) (hb : 0 < b) (ht : Tab w) (hcell : w.cell? ⟨b, 0, none⟩ = some (.int .u32 4294967295)) (hfree : w.frozen? ⟨b, 0, none⟩ = false) :
    Calls Tryd.prog 7 #[.string s, .func (.func 8) #[.pointer (some ⟨b, 0, none⟩)] #[]] w fun e w' => e = .returned (.tuple #[]) ∧ w'.cell? ⟨b, 0, none⟩ = some (.int .u32 (sum s.data.toList : Int)) ∧ Below b w w' := by
  have HT := hd ht
  clear ht
  go_enter Tryd.func7, Tryd.ntmps7
  go_wp2_with fail
  go_loopw [7] (fun i wr => ∃ k : Nat, k ≤ s.size ∧ i = .int .i64 k ∧ wr.cell? ⟨b, 0, none⟩ = some (.int .u32 (sum (s.data.toList.take k) : Int)) ∧ wr.frozen? ⟨b, 0, none⟩ = false ∧ Below b w wr) (fun i _ => s.size - (intOf i).toNat)
  case atStart => exact ⟨0, Nat.zero_le _, rfl, hcell, hfree, Below.refl _ _⟩
  case round =>
    clear hcell hfree
    obtain ⟨k, hk, rfl, hcell, hfree, hbel⟩ := hrel
    have hl := sum_lt (s.data.toList.take k)
    by_cases hlt : k < s.size
    · have HS := hd (sum_step s k hlt)
      have hbt := s[k].toNat_lt
      generalize sum (s.data.toList.take k) = c at *
      have HB := hd (byte_eq c s[k].toNat hbt)
      have HL := hd (take4_lt c (s[k].toNat % 16) hl (by omega))
      have e1 : (s[k].toNat : Int) % 16 = ((s[k].toNat % 16 : Nat) : Int) := by omega
      have e2 : (s[k].toNat : Int) / 16 = ((s[k].toNat / 16 : Nat) : Int) := by omega
      have E1 := hd e1
      have E2 := hd e2
      clear e1 e2
      go_wp2_with fail
      rw [E1.out]
      refine (take_any b c _ _ hb hl (by omega) (HT.out.below hb hbel) hcell hfree).mono ?_
      rintro e w1 ⟨rfl, hcell1, hfree1, hbel1⟩
      go_wp2_with fail
      rw [E2.out]
      refine (take_any b _ _ _ hb HL.out (by omega) ((HT.out.below hb hbel).below hb hbel1) hcell1 hfree1).mono ?_
      rintro e w2 ⟨rfl, hcell2, hfree2, hbel2⟩
      clear hcell hfree hcell1 hfree1
      have hb3 := (hbel.trans hbel1).trans hbel2
      clear hbel hbel1 hbel2
      go_wp2
      go_roundw
      case rel => exact ⟨k + 1, by omega, by go_num, by rw [HS.out, HB.out]; exact hcell2, hfree2, hb3⟩
      case measure => simp [intOf]; omega
    · obtain rfl : k = s.size := by omega
      rw [show s.data.toList.take s.size = s.data.toList from List.take_of_length_le (by simp)] at *
      go_wp2
      go_end0
      exact ⟨rfl, hcell, hbel⟩

set_option maxHeartbeats 400000 in
theorem impl_any (s : ByteArray) (w : World) (hs : s.size ≤ 1048576) (ht : Tab w) :
    Calls Tryd.prog 5 #[.string s] w fun e w' => e = .returned (.int .i64 (4294967295 - (sum s.data.toList : Int))) ∧ Below w.heap.size w w' := by
  have hb : 0 < w.heap.size := ht.size
  have hl := sum_lt s.data.toList
  have HT := hd ht
  clear ht
  go_enter Tryd.func5, Tryd.ntmps5
  go_wp2_with (first
    | (go_at_call 6; go_in)
    | (go_at_call 7; refine (each_any s w.heap.size _ hs hb (HT.out.below hb ((Below.refl _ _).alloc (Nat.le_refl _) _)) (by simp) (by simp)).mono ?_; rintro e w1 ⟨rfl, hcell1, hbel1⟩)
    | (go_at_call 9; refine (total_any w.heap.size _ _ hl hcell1).mono ?_; rintro e w2 ⟨rfl, rfl⟩))
  go_ret
  exact ⟨rfl, ((Below.refl _ _).alloc (Nat.le_refl _) _).trans hbel1⟩

end Go.Proofs.YtdjhdcchlfbanaaDoor.CrcC
