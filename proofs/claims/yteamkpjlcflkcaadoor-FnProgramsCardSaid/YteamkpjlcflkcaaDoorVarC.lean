/- What Var (spec and impl) answers: the number in sevens of bits, the lowest first, or nothing; it makes new memory alone. Condition: none. -/
import Derived.Test.YteamkpjlcflkcaaDoorRows
import Derived.Test.YteamkpjlcflkcaaDoorNum
import Derived.WalkKit
import Derived.WalkSpells
import Derived.Handy
namespace Go.Proofs.YteamkpjlcflkcaaDoor.VarC
open Go.RowKit Num
set_option linter.unusedVariables false
set_option linter.unusedSimpArgs false

/-- The bytes of n, at most f of them. -/
def vb : Nat → Nat → List UInt8
  | 0, _ => []
  | f + 1, n => if n < 128 then [UInt8.ofNat n] else UInt8.ofNat (128 + n % 128) :: vb f (n / 128)
theorem vb_last (f n : Nat) (h : n < 128) : vb (f + 1) n = [UInt8.ofNat n] := by simp [vb, h]
theorem vb_more (f n : Nat) (h : ¬ n < 128) : vb (f + 1) n = UInt8.ofNat (128 + n % 128) :: vb f (n / 128) := by simp [vb, h]
/-- What is answered, at every argument. -/
def out (n : Int) : List UInt8 := if 0 ≤ n ∧ n ≤ 562949953421311 then vb 7 n.toNat else []
theorem step (l : List UInt8) (f x n : Nat) (h : ¬ x < 128) (hx : x < 128 ^ (f + 1)) (hl : f + l.length = 6) (he : l ++ vb (f + 1) x = vb 7 n) :
    ∃ g, x / 128 < 128 ^ (g + 1) ∧ g + (l ++ [UInt8.ofNat (128 + x % 128)]).length = 6 ∧ (l ++ [UInt8.ofNat (128 + x % 128)]) ++ vb (g + 1) (x / 128) = vb 7 n := by
  match f, hx, hl, he with
  | 0, hx, _, _ => omega
  | f + 1, hx, hl, he =>
    refine ⟨f, ?_, by simp; omega, ?_⟩
    · rw [Nat.div_lt_iff_lt_mul (by omega), ← Nat.pow_succ]; exact hx
    · rw [vb_more _ _ h] at he; simpa using he
theorem fin (l : List UInt8) (f x n : Nat) (h : x < 128) (he : l ++ vb (f + 1) x = vb 7 n) : l ++ [UInt8.ofNat x] = vb 7 n := by
  rw [vb_last _ _ h] at he; exact he

set_option maxRecDepth 100000 in
set_option maxHeartbeats 400000 in
theorem impl_core (n : Nat) (r : List UInt8) (H : Hid (vb 7 n = r)) (w : World) (hn : n ≤ 562949953421311) :
    Calls Tryd.prog 25 #[.int .i64 n] w fun e w' => e = .returned (.string ⟨r.toArray⟩) ∧ Below w.heap.size w w' := by
  have hn1 : (n : Int) ≤ 562949953421311 := by omega
  obtain ⟨i0, hi, hz0, hz1, hz2⟩ := info_parts info8
  go_enter Tryd.func25, Tryd.ntmps25
  go_wp2_with (at_make; refine wpList_make_own _ rfl _ _ 22 rfl w.heap.size 5 i0 (.int .u8 0) 1 Tryd.underlying22 hi hz0 hz1 .i64 .i64 _ 7 rfl rfl rfl (by rw [hz2]; omega) (by unfold maxLen; omega) (Nat.le_refl _) ?_)
  intro w1 hown0 hgrow
  have hbel0 : Below w.heap.size w w1 := (Below.refl _ _).grown hgrow (Nat.le_refl _) (by simp)
  clear hgrow hi hz0 hz1 hz2
  go_wp2_with fail
  go_loopw [0, 3] (fun xv v wr => ∃ (x f : Nat) (l : List UInt8), xv = .int .i64 x ∧ x < 128 ^ (f + 1) ∧ x ≤ 562949953421311 ∧ f + l.length = 6 ∧ Hid (l ++ vb (f + 1) x = vb 7 n) ∧ wr.ownsRow w.heap.size 5 1 v l.length (l.map bc) ∧ Below w.heap.size w wr)
    (fun xv _ _ => (intOf xv).toNat)
  case atStart => exact ⟨n, 6, [], rfl, Nat.lt_of_le_of_lt hn (by decide), hn, rfl, hd rfl, hown0, hbel0⟩
  case round =>
    clear hown0 hbel0
    obtain ⟨x, f, l, rfl, hx, hxm, hl, he, hown, hbel⟩ := hrel
    by_cases hlt : x < 128
    · obtain ⟨b, hb⟩ : ∃ b, b = UInt8.ofNat x := ⟨_, rfl⟩
      have hF : Hid (l ++ [b] = r) := hd (by rw [hb]; exact (fin l f x n hlt he.out).trans H.out)
      have hu : Value.int .u8 (x : Int) = bc b := by rw [hb]; simp [bc]; omega
      clear hb
      have hown1 := hown.alloc (.cells #[.int .u8 (x : Int)] 5)
      have HCS := hd (cells_one wr (.int .u8 (x : Int)) b hu)
      clear hu
      have hsz := hbel.size
      clear he H hx
      go_wp2_with (at_builtin; refine wpList_append_bytes rfl _ _ rfl w.heap.size _ l l.length rfl rfl hown1 wr.heap.size [b] 1 rfl rfl HCS.out (by simp; omega) (by simp; omega) ?_)
      intro v2 w2 hown2 hb2
      have hcv := conv_any (l ++ [b]) _ rfl (by simpa using hown2)
      rw [hF.out] at hcv
      have hb3 : Below w.heap.size w w2 := (hbel.alloc hsz _).trans hb2
      clear hown2 hb2 hown hown1
      go_wp2
      go_ret
      exact ⟨rfl, hb3⟩
    · obtain ⟨g, hg1, hg2, hg3⟩ := step l f x n hlt hx hl he.out
      obtain ⟨b, hb⟩ : ∃ b, b = UInt8.ofNat (128 + x % 128) := ⟨_, rfl⟩
      rw [← hb] at hg2 hg3
      have hG : Hid ((l ++ [b]) ++ vb (g + 1) (x / 128) = vb 7 n) := hg3
      have hu : Value.int .u8 ((x : Int) % 128 + 128) = bc b := by rw [hb]; simp [bc]; omega
      clear hb
      have hown1 := hown.alloc (.cells #[.int .u8 ((x : Int) % 128 + 128)] 5)
      have HCS := hd (cells_one wr (.int .u8 ((x : Int) % 128 + 128)) b hu)
      clear hu
      have hsz := hbel.size
      have hge : (128 : Int) ≤ x := by omega
      have HG2 := hd hg2
      clear he H hx hg3 hg2
      go_wp2_with (at_builtin; refine wpList_append_bytes rfl _ _ rfl w.heap.size _ l l.length rfl rfl hown1 wr.heap.size [b] 1 rfl rfl HCS.out (by simp; omega) (by simp; omega) ?_)
      intro v2 w2 hown2 hb2
      have hb3 : Below w.heap.size w w2 := (hbel.alloc hsz _).trans hb2
      have HO : Hid (w2.ownsRow w.heap.size 5 1 v2 (l ++ [b]).length ((l ++ [b]).map bc)) := hd (by simpa using hown2)
      clear hb2 hown hown1 hown2
      go_wp2
      go_roundw
      case rel => exact ⟨x / 128, g, l ++ [b], by go_num, hg1, by omega, HG2.out, hG, HO.out, hb3⟩
      case measure => simp [intOf]; omega

set_option maxRecDepth 100000 in
set_option maxHeartbeats 400000 in
theorem impl_no (n : Int) (w : World) (h : ¬ (0 ≤ n ∧ n ≤ 562949953421311)) :
    Calls Tryd.prog 25 #[.int .i64 n] w fun e w' => e = .returned (.string ⟨([] : List UInt8).toArray⟩) ∧ Below w.heap.size w w' := by
  by_cases h1 : 0 ≤ n
  · have h2 : 562949953421311 < n := by omega
    clear h
    go_enter Tryd.func25, Tryd.ntmps25
    go_wp2
    go_ret
    exact ⟨rfl, Below.refl _ _⟩
  · clear h
    go_enter Tryd.func25, Tryd.ntmps25
    go_wp2
    go_ret
    exact ⟨rfl, Below.refl _ _⟩
theorem impl_any (n : Int) (w : World) :
    Calls Tryd.prog 25 #[.int .i64 n] w fun e w' => e = .returned (.string ⟨(out n).toArray⟩) ∧ Below w.heap.size w w' := by
  by_cases h : 0 ≤ n ∧ n ≤ 562949953421311
  · obtain ⟨k, rfl⟩ := Int.eq_ofNat_of_zero_le (a := n) (by omega)
    have e : out (k : Int) = vb 7 k := by unfold out; rw [if_pos h]; rfl
    rw [e]
    exact impl_core k _ (hd rfl) w (by omega)
  · have e : out n = [] := by unfold out; rw [if_neg h]
    rw [e]
    exact impl_no n w h

end Go.Proofs.YteamkpjlcflkcaaDoor.VarC
