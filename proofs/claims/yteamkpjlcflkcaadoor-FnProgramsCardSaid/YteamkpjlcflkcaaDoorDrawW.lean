/- What spec's DrawAsm answers: some text. Condition: none. -/
import Derived.Test.YteamkpjlcflkcaaDoorDrawV
import Derived.Test.YteamkpjlcflkcaaDoorDrawT
import Derived.Test.YteamkpjlcflkcaaDoorListC
namespace Go.Proofs.YteamkpjlcflkcaaDoor.DrawW
open Go.RowKit Go.Deep Num Draw DrawN DrawR DrawT InsC InsO ProgC ProgD ReadA ReadB ReadC DrawP DrawQ DrawV ListC
set_option linter.unusedVariables false
set_option linter.unusedSimpArgs false

theorem sL_len (cs : List UInt8) (i : Nat) (h : Int) (l : List UInt8) : (sL cs i h l).length ≤ l.length + 4 := by
  unfold sL
  split
  · have := xL_length cs i h 3 (by omega); omega
  · simp only
    split
    · simp; omega
    · split
      · simp; omega
      · split
        · simp; omega
        · simp; omega
def tbS : List (List UInt8) := [[], [115, 101, 116, 32, 114, 48], [115, 101, 116, 32, 114, 52, 32, 49], [97, 100, 100, 32, 114, 48, 32, 114, 49], [115, 121, 115, 32, 48], [115, 121, 115, 32, 50, 49], [106, 117, 109, 112, 32, 52, 49], [122, 101, 114, 111, 32, 114, 49, 32, 120], [110, 111, 112], [115, 101, 116, 32, 114, 48, 32, 49, 48, 48, 48, 48, 48, 49], [108, 111, 97, 100, 32, 114, 49, 32, 50], [32, 115, 121, 115, 32, 49]]
theorem tbS_cells (W : World) : ∀ j, j < 12 → (W.alloc (.cells #[.string ⟨#[]⟩, .string ⟨#[115, 101, 116, 32, 114, 48]⟩, .string ⟨#[115, 101, 116, 32, 114, 52, 32, 49]⟩, .string ⟨#[97, 100, 100, 32, 114, 48, 32, 114, 49]⟩, .string ⟨#[115, 121, 115, 32, 48]⟩, .string ⟨#[115, 121, 115, 32, 50, 49]⟩, .string ⟨#[106, 117, 109, 112, 32, 52, 49]⟩, .string ⟨#[122, 101, 114, 111, 32, 114, 49, 32, 120]⟩, .string ⟨#[110, 111, 112]⟩, .string ⟨#[115, 101, 116, 32, 114, 48, 32, 49, 48, 48, 48, 48, 48, 49]⟩, .string ⟨#[108, 111, 97, 100, 32, 114, 49, 32, 50]⟩, .string ⟨#[32, 115, 121, 115, 32, 49]⟩] 9)).cell? ⟨W.heap.size, j, none⟩ = some (.string ⟨(tbS.getD j []).toArray⟩) := by
  intro j hj
  have : j = 0 ∨ j = 1 ∨ j = 2 ∨ j = 3 ∨ j = 4 ∨ j = 5 ∨ j = 6 ∨ j = 7 ∨ j = 8 ∨ j = 9 ∨ j = 10 ∨ j = 11 := by omega
  rcases this with rfl | rfl | rfl | rfl | rfl | rfl | rfl | rfl | rfl | rfl | rfl | rfl <;> simp [tbS]
theorem tbS_len : ∀ j : Fin 12, (tbS.getD j.val []).length ≤ 14 := by decide

set_option maxRecDepth 100000 in
set_option maxHeartbeats 400000 in
theorem pickS_E (k : Fx) (w : World) (g : Nat) (c : On k w g) (p : Nat) (hp : p ≠ g) (hc : ∀ j, j < 12 → w.cell? ⟨p, j, none⟩ = some (.string ⟨(tbS.getD j []).toArray⟩)) :
    Calls Tryd.prog 33 #[.pointer (some ⟨g, 0, none⟩), .slice (some ⟨p, 0, none⟩) 12 12] w fun e w' => (∃ x : List UInt8, e = .returned (.string ⟨x.toArray⟩) ∧ x.length ≤ 14) ∧ Inv k w g w' := by
  have HCC := hd hc
  have HK := hd c
  clear hc c
  obtain ⟨P, hP⟩ : ∃ P : Ending → Prop, P = fun e => ∃ x : List UInt8, e = .returned (.string ⟨x.toArray⟩) ∧ x.length ≤ 14 := ⟨_, rfl⟩
  suffices H : Calls Tryd.prog 33 #[.pointer (some ⟨g, 0, none⟩), .slice (some ⟨p, 0, none⟩) 12 12] w fun e w' => P e ∧ Inv k w g w' by
    rw [hP] at H; exact H
  have HP := hd hP
  clear hP
  go_enter Tryd.func33, Tryd.ntmps33
  go_wp2_with fail
  refine (below_E k w g 12 HK.out (by omega) (by omega)).mono ?_
  rintro e w1 ⟨x, x0, x1, rfl, t1⟩
  obtain ⟨n, rfl⟩ := Int.eq_ofNat_of_zero_le x0
  have cx := t1.cell hp (HCC.out n (by omega))
  have hl := tbS_len ⟨n, by omega⟩
  simp only at hl
  have HP2 : Hid (P (.returned (.string ⟨(tbS.getD n []).toArray⟩))) := hd (by rw [HP.out]; exact ⟨_, rfl, hl⟩)
  generalize tbS.getD n [] = y at *
  clear hl
  go_wp2
  go_ret
  exact ⟨HP2.out, t1⟩
theorem one_len (q : Q) : (ansL [q]).length ≤ 36 := by
  unfold ansL
  split
  · rename_i h
    have hq : Q.ok q = true := by simpa [progB] using h
    have h1 := nm_len q.o.toNat
    have h2 := argsT_len (fmL q.o.toNat) q hq (fmL q.o.toNat).length
    have h3 := fm_len q.o.toNat
    simp only [listL, List.flatMap_cons, List.flatMap_nil, List.append_nil, lineT, List.length_append, List.length_cons, List.length_nil]
    omega
  · simp

/-- What DrawAsm answers. -/
def TxPost (w : World) (e : Ending) (w' : World) : Prop := (∃ l : List UInt8, e = .returned (.string ⟨l.toArray⟩) ∧ l.length ≤ 1000) ∧ Below w.heap.size w w'

set_option maxRecDepth 100000 in
set_option maxHeartbeats 2000000 in
theorem drawAsm_any (w : World) (a : Option Addr) (len cap : Nat) (cs : List UInt8) (c : DrawR.Code w a len cs) :
    Calls Tryd.prog 14 #[.slice a len cap] w fun e w' => TxPost w e w' := by
  have C1 := hd (new_any w a len cap cs c)
  clear c
  go_enter Tryd.func14, Tryd.ntmps14
  go_wp2_with fail
  refine C1.out.mono ?_
  rintro e w1 ⟨rfl, c1, hb1⟩
  obtain ⟨k, hk⟩ : ∃ k : Fx, k = ⟨a, len, cap, cs⟩ := ⟨_, rfl⟩
  have O1 : On k w1 w.heap.size := by rw [hk]; exact ⟨_, _, c1⟩
  have hgl : w.heap.size < w1.heap.size := O1.lt
  have HC := hd O1
  clear C1 c1 hk O1
  obtain ⟨gc, hgc⟩ : ∃ gc, gc = w.heap.size := ⟨_, rfl⟩
  rw [← hgc] at HC hgl ⊢
  have HB := hd hb1
  have HG := hd hgc
  clear hb1 hgc
  go_wp2_with fail
  refine (below_E k w1 gc 8 HC.out (by omega) (by omega)).mono ?_
  rintro e w2 ⟨x, x0, x1, rfl, I2⟩
  obtain ⟨n, rfl⟩ := Int.eq_ofNat_of_zero_le x0
  go_wp2_with fail
  go_loopw [4, 5] (fun sv nv wr => ∃ (j : Nat) (z : List UInt8), nv = .int .i64 j ∧ sv = .string ⟨z.toArray⟩ ∧ z.length + 36 * j ≤ 252 ∧ Inv k w1 gc wr) (fun _ nv _ => (intOf nv).toNat)
  case atStart => exact ⟨n, [], rfl, rfl, by simp; omega, I2⟩
  case round =>
    clear I2
    obtain ⟨j, z, rfl, rfl, hz, I3⟩ := hrel
    by_cases hlt : 0 < j
    · have hj0 : (0 : Int) < j := by omega
      have hzz : z.length ≤ 216 := by omega
      go_wp2_with (go_at_call 32; fail)
      refine (below_E k wr gc 10 I3.1 (by omega) (by omega)).mono ?_
      rintro e w4 ⟨x, x0', x1', rfl, t4⟩
      have I4 := I3.trans t4
      clear I3 t4
      by_cases hx : x = 0
      · subst hx
        have Ia := I4.below HC.out ((Below.refl _ _).alloc I4.size (.cells #[.string ⟨#[]⟩, .string ⟨#[115, 101, 116, 32, 114, 48]⟩, .string ⟨#[115, 101, 116, 32, 114, 52, 32, 49]⟩, .string ⟨#[97, 100, 100, 32, 114, 48, 32, 114, 49]⟩, .string ⟨#[115, 121, 115, 32, 48]⟩, .string ⟨#[115, 121, 115, 32, 50, 49]⟩, .string ⟨#[106, 117, 109, 112, 32, 52, 49]⟩, .string ⟨#[122, 101, 114, 111, 32, 114, 49, 32, 120]⟩, .string ⟨#[110, 111, 112]⟩, .string ⟨#[115, 101, 116, 32, 114, 48, 32, 49, 48, 48, 48, 48, 48, 49]⟩, .string ⟨#[108, 111, 97, 100, 32, 114, 49, 32, 50]⟩, .string ⟨#[32, 115, 121, 115, 32, 49]⟩] 9))
        have hpc := hd (tbS_cells w4)
        have hpn : w4.heap.size ≠ gc := by have := I4.1.lt; omega
        go_wp2_with (go_at_call 33; fail)
        generalize w4.alloc (.cells #[.string ⟨#[]⟩, .string ⟨#[115, 101, 116, 32, 114, 48]⟩, .string ⟨#[115, 101, 116, 32, 114, 52, 32, 49]⟩, .string ⟨#[97, 100, 100, 32, 114, 48, 32, 114, 49]⟩, .string ⟨#[115, 121, 115, 32, 48]⟩, .string ⟨#[115, 121, 115, 32, 50, 49]⟩, .string ⟨#[106, 117, 109, 112, 32, 52, 49]⟩, .string ⟨#[122, 101, 114, 111, 32, 114, 49, 32, 120]⟩, .string ⟨#[110, 111, 112]⟩, .string ⟨#[115, 101, 116, 32, 114, 48, 32, 49, 48, 48, 48, 48, 48, 49]⟩, .string ⟨#[108, 111, 97, 100, 32, 114, 49, 32, 50]⟩, .string ⟨#[32, 115, 121, 115, 32, 49]⟩] 9) = W4 at *
        refine (pickS_E k W4 gc Ia.1 w4.heap.size hpn hpc.out).mono ?_
        rintro e w5 ⟨⟨y, rfl, hy⟩, t5⟩
        have I5 := Ia.trans t5
        clear Ia t5 I4
        go_wp2
        go_roundw
        case rel => exact ⟨j - 1, z ++ y ++ [10], by go_num, by simp only [← ByteArray.mk_append_mk], by simp; omega, I5⟩
        case measure => simp [intOf]; omega
      · have hx' : (x == 0) = false := by simpa using hx
        go_wp2_with (go_at_call 34; fail)
        refine (ins_any k w4 gc I4.1).mono ?_
        rintro e w5 ⟨⟨o, a', b, d⟩, rfl, t5⟩
        have I5 := I4.trans t5
        have hbs := I5.size
        have I6 := I5.below HC.out ((Below.refl _ _).alloc hbs (.cells #[.int .i64 o, .int .i64 a', .int .i64 b, .int .i64 d] 44))
        have hL : Lies (w5.alloc (.cells #[.int .i64 o, .int .i64 a', .int .i64 b, .int .i64 d] 44)) (.slice (some ⟨w5.heap.size, 0, none⟩) 1 1) [⟨o, a', b, d⟩] := by
          refine .inr ⟨w5.heap.size, 1, rfl, by simp, fun i q hq => ?_⟩
          match i, hq with
          | 0, hq => simp at hq; subst hq; exact ⟨by simp, by simp, by simp, by simp⟩
          | i + 1, hq => simp at hq
        have hls := ListC.spec_any _ _ _ hL (by simp)
        have h36 := one_len ⟨o, a', b, d⟩
        generalize ansL [⟨o, a', b, d⟩] = y at *
        have HLS := hd hls
        clear I4 t5 I5 hL hls
        go_wp2_with (go_at_call 20; fail)
        refine HLS.out.mono ?_
        rintro e w6 ⟨rfl, hb6⟩
        have I7 := I6.below HC.out (hb6.mono I6.size)
        clear hb6 I6 HLS
        go_wp2
        go_roundw
        case rel => exact ⟨j - 1, z ++ y, by go_num, by simp only [← ByteArray.mk_append_mk], by simp; omega, I7⟩
        case measure => simp [intOf]; omega
    · obtain rfl : j = 0 := by omega
      go_wp2_with (go_at_call 35; fail)
      refine (once_E k wr gc 4 I3.1 (by omega)).mono ?_
      rintro e w5 ⟨b5, rfl, t5⟩
      have I5 := I3.trans t5
      clear I3 t5
      cases b5
      · go_wp2_with (go_at_call 35; fail)
        refine (once_E k w5 gc 20 I5.1 (by omega)).mono ?_
        rintro e w6 ⟨b6, rfl, t6⟩
        have I6 := I5.trans t6
        clear I5 t6
        cases b6
        · go_wp2
          go_ret
          exact ⟨⟨z, rfl, by omega⟩, Inv.out HB.out (Nat.le_of_eq HG.out.symm) I6⟩
        · go_wp2_with fail
          go_loopw [4, 6] (fun sv iv wx => ∃ (i : Nat) (y : List UInt8), iv = .int .i64 i ∧ i ≤ 41 ∧ sv = .string ⟨y.toArray⟩ ∧ y.length ≤ 252 + 6 * i ∧ Inv k w1 gc wx) (fun _ iv _ => 42 - (intOf iv).toNat)
          case atStart => exact ⟨0, z, rfl, by omega, rfl, by omega, I6⟩
          case round =>
            clear I6
            obtain ⟨i, y, rfl, hi, rfl, hy, I7⟩ := hrel
            go_wp2_with (go_at_call 32; fail)
            refine (below_E k _ gc 2 I7.1 (by omega) (by omega)).mono ?_
            rintro e w8 ⟨x, x0', x1', rfl, t8⟩
            have I8 := I7.trans t8
            clear I7 t8
            by_cases hlt2 : (i : Int) < 40 + x
            · go_wp2
              go_roundw
              case rel => exact ⟨i + 1, y ++ [115, 121, 115, 32, 49, 10], by go_num, by omega, by rw [← ByteArray.mk_append_mk], by simp; omega, I8⟩
              case measure => simp [intOf]; omega
            · go_wp2
              go_ret
              exact ⟨⟨y, rfl, by omega⟩, Inv.out HB.out (Nat.le_of_eq HG.out.symm) I8⟩
      · obtain ⟨⟨ci, ch, cc⟩, cg⟩ := I5
        have hsp := hd (spoil_any w5 gc k.a k.len k.cap k.cs ci ch ⟨z.toArray⟩ cc (by show z.toArray.size ≤ 1000; simp; omega))
        have hsl := sL_len k.cs ci ch z
        rw [show (⟨z.toArray⟩ : ByteArray).data.toList = z by simp] at hsp
        generalize sL k.cs ci ch z = y at *
        clear cc
        go_wp2_with (go_at_call 36; fail)
        refine hsp.out.mono ?_
        rintro e w6 ⟨rfl, t6⟩
        have hbb : Below w.heap.size w w6 := HB.out.trans ((Below.refl _ _).grown (grown_trans cg t6) HB.out.size (fun k hk => by have := HG.out; simp at hk; omega))
        go_wp2
        go_ret
        exact ⟨⟨y, rfl, by omega⟩, hbb⟩

end Go.Proofs.YteamkpjlcflkcaaDoor.DrawW
