/- Plain facts behind FnNumbers: what Var, Fixed, Dec and Hex make is read as it. Condition: none. -/
import Derived.Test.YtghjgcobkookcaaDoorRows
import Derived.Test.YtghjgcobkookcaaDoorNum
import Derived.Test.YtghjgcobkookcaaDoorVarC
import Derived.Test.YtghjgcobkookcaaDoorReadVar
import Derived.Test.YtghjgcobkookcaaDoorFixed
import Derived.Test.YtghjgcobkookcaaDoorReadFixed
import Derived.Test.YtghjgcobkookcaaDoorHexC
import Derived.Test.YtghjgcobkookcaaDoorUnhex
import Derived.Test.YtghjgcobkookcaaDoorDecM
namespace Go.Proofs.YtghjgcobkookcaaDoor.Laws1
open Num
set_option linter.unusedVariables false
set_option linter.unusedSimpArgs false

theorem vb_len (f n : Nat) : (VarC.vb (f + 1) n).length ≤ f + 1 ∧ VarC.vb (f + 1) n ≠ [] := by
  induction f generalizing n with
  | zero => unfold VarC.vb; split <;> simp [VarC.vb]
  | succ f ih =>
    by_cases h : n < 128
    · rw [VarC.vb_last _ _ h]; simp
    · rw [VarC.vb_more _ _ h]
      have := (ih (n / 128)).1
      simp; omega
theorem le_vb (f n : Nat) (h : n < 128 ^ (f + 1)) : ReadVar.le (VarC.vb (f + 1) n) = n := by
  induction f generalizing n with
  | zero => rw [VarC.vb_last _ _ (by omega)]; simp [ReadVar.le]; omega
  | succ f ih =>
    by_cases hn : n < 128
    · rw [VarC.vb_last _ _ hn]; simp [ReadVar.le]; omega
    · rw [VarC.vb_more _ _ hn]
      have := ih (n / 128) (by rw [Nat.div_lt_iff_lt_mul (by omega), ← Nat.pow_succ]; exact h)
      simp only [ReadVar.le, this]
      simp
      omega
/-- What Var makes is read as it, whatever stands behind. -/
theorem var_read (n : Nat) (T : List UInt8) (h : n ≤ 562949953421311) : ReadVar.R (VarC.vb 7 n ++ T) n (VarC.vb 7 n).length := by
  have hl := vb_len 6 n
  have hle := le_vb 6 n (Nat.lt_of_le_of_lt h (by decide))
  have hc : ReadVar.canon (VarC.vb 7 n) = true := (ReadVar.vb_canon (VarC.vb 7 n) 7 hl.1 hl.2).1 (by rw [hle])
  have ht : (VarC.vb 7 n ++ T).take (VarC.vb 7 n).length = VarC.vb 7 n := by simp
  refine .inl ⟨?_, hl.1, by simp, by rw [ht]; exact hc, by rw [ht]; exact hle.symm⟩
  exact Nat.pos_of_ne_zero (fun e => hl.2 (List.eq_nil_of_length_eq_zero e))
/-- What is read as a Var is what Var makes. -/
theorem read_var (l : List UInt8) (z j : Nat) (h : ReadVar.R l z j) (hj : j ≠ 0) : VarC.out (z : Int) = l.take j ∧ j ≤ l.length := by
  rcases h with ⟨h1, h7, hl, hc, rfl⟩ | ⟨_, h0, _⟩
  · have hlen : (l.take j).length = j := by simp; omega
    have hm := ReadVar.le_7 (l.take j) (by omega)
    refine ⟨?_, hl⟩
    unfold VarC.out
    rw [if_pos (by omega), Int.toNat_natCast]
    exact (ReadVar.vb_canon (l.take j) 7 (by omega) (by intro e; rw [e] at hlen; simp at hlen; omega)).2 hc
  · exact absurd h0 hj
theorem val_fb (n k : Nat) : ReadFixed.val (Fixed.fb n k) = ((n % 256 ^ k : Nat) : Int) := by
  have key : ∀ (l : List UInt8) (a : Int), l.foldl (fun n c => n * 256 + (c.toNat : Int)) a = a * 256 ^ l.length + ReadFixed.val l := by
    intro l
    induction l with
    | nil => intro a; simp [ReadFixed.val]
    | cons c l ih =>
      intro a
      have e1 := ih (a * 256 + (c.toNat : Int))
      have e2 := ih (0 * 256 + (c.toNat : Int))
      simp only [ReadFixed.val, List.foldl_cons, List.length_cons] at *
      rw [e1, e2, Int.pow_succ, Int.add_mul, Int.mul_assoc, Int.mul_comm 256 (256 ^ l.length)]
      simp [Int.add_assoc]
  induction k with
  | zero => simp [Fixed.fb, ReadFixed.val]
  | succ k ih =>
    have h := key (Fixed.fb n k) (0 * 256 + ((UInt8.ofNat (n / 256 ^ k)).toNat : Int))
    simp only [Fixed.fb, ReadFixed.val, List.foldl_cons]
    rw [h, Fixed.fb_length, ih]
    have h256 : (256 : Int) ^ k = ((256 ^ k : Nat) : Int) := by rw [Int.natCast_pow]; rfl
    rw [h256, Nat.pow_succ, Nat.mod_mul]
    simp
    rw [Int.mul_comm, Int.add_comm]
/-- What Hex makes is read as it. -/
theorem frm_dg (k : Nat) (h : k < 16) : Unhex.frm (HexC.dg k) = k := Unhex.frm_hit k h
theorem hex_get (l : List UInt8) (j : Nat) (h : j < l.length) : (HexC.hexOf l).getD (2 * j) 0 = HexC.dg (l[j].toNat / 16) ∧ (HexC.hexOf l).getD (2 * j + 1) 0 = HexC.dg (l[j].toNat % 16) := by
  induction l generalizing j with
  | nil => simp at h
  | cons b l ih =>
    cases j with
    | zero => simp [HexC.hexOf, HexC.two]
    | succ j =>
      have := ih j (by simpa using h)
      rw [show 2 * (j + 1) = 2 * j + 2 by omega]
      simpa [HexC.hexOf, HexC.two] using this
theorem unhex_hex (l : List UInt8) : Unhex.out (HexC.hexOf l) = (l, true) := by
  have hlen := HexC.hexOf_length l
  have hhalf : (HexC.hexOf l).length / 2 = l.length := by omega
  unfold Unhex.out
  rw [hhalf, if_pos]
  · refine Prod.ext ?_ rfl
    apply List.ext_getElem (by simp)
    intro j h1 h2
    simp only [List.getElem_map, List.getElem_range, Unhex.pb]
    obtain ⟨e1, e2⟩ := hex_get l j h2
    have hb := l[j].toNat_lt
    rw [e1, e2, frm_dg _ (by omega), frm_dg _ (by omega)]
    apply UInt8.toNat.inj
    simp
    omega
  · refine ⟨by omega, List.all_eq_true.2 fun j hj => ?_⟩
    have hj' : j < l.length := by simpa using hj
    obtain ⟨e1, e2⟩ := hex_get l j hj'
    have hb := l[j].toNat_lt
    unfold Unhex.okB
    rw [e1, e2, frm_dg _ (by omega), frm_dg _ (by omega)]
    simp
    omega

end Go.Proofs.YtghjgcobkookcaaDoor.Laws1
