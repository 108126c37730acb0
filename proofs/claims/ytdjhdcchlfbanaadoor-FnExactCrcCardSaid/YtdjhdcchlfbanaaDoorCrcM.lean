/- Plain mathematics of the sum: eight halvings of a sum that a byte was xored into are two looks at a table of sixteen. Condition: none. -/
namespace Go.Proofs.YtdjhdcchlfbanaaDoor.CrcM

/-- One halving. -/
def hv (c : Nat) : Nat := if c % 2 = 1 then (c / 2) ^^^ 2197175160 else c / 2
def hvN : Nat → Nat → Nat
  | 0, c => c
  | n + 1, c => hvN n (hv c)
/-- The table. -/
def tab : List Nat := [0, 274646895, 549293790, 820201905, 1098587580, 1361435347, 1640403810, 1905808397, 2197175160, 2460548119, 2722870694, 2987750089, 3280807620, 3553878443, 3811616794, 4084100981]
/-- One look at the table. -/
def take4 (c h : Nat) : Nat := (c / 16) ^^^ tab.getD ((c ^^^ h) % 16) 0
/-- What a byte makes of the sum. -/
def byte (c b : Nat) : Nat := hvN 8 (c ^^^ b)
def sum (l : List UInt8) : Nat := l.foldl (fun c b => byte c b.toNat) 4294967295

theorem div2 (c : Nat) : c / 2 = c >>> 1 := by rw [Nat.shiftRight_eq_div_pow]
theorem hv_xor (a b : Nat) : hv (a ^^^ b) = hv a ^^^ hv b := by
  have hs : (a ^^^ b) / 2 = a / 2 ^^^ b / 2 := by simp only [div2, Nat.shiftRight_xor_distrib]
  have hm : (a ^^^ b) % 2 = (a % 2) ^^^ (b % 2) := by
    have := @Nat.xor_mod_two_pow a b 1
    simpa using this
  unfold hv
  rw [hs, hm]
  rcases Nat.mod_two_eq_zero_or_one a with h1 | h1 <;> rcases Nat.mod_two_eq_zero_or_one b with h2 | h2 <;> rw [h1, h2] <;> simp
  · rw [Nat.xor_assoc]
  · rw [Nat.xor_assoc, Nat.xor_assoc, Nat.xor_comm (b / 2)]
  · rw [Nat.xor_assoc, Nat.xor_comm 2197175160, Nat.xor_assoc, Nat.xor_self, Nat.xor_zero]
theorem hvN_xor (n : Nat) : ∀ a b, hvN n (a ^^^ b) = hvN n a ^^^ hvN n b := by
  induction n with
  | zero => intro a b; rfl
  | succ n ih => intro a b; show hvN n (hv (a ^^^ b)) = hvN n (hv a) ^^^ hvN n (hv b); rw [hv_xor, ih]
theorem hv_even (x : Nat) : hv (2 * x) = x := by unfold hv; rw [if_neg (by omega)]; omega
theorem hvN_even (x : Nat) : hvN 4 (x * 16) = x := by
  show hv (hv (hv (hv (x * 16)))) = x
  rw [show x * 16 = 2 * (2 * (2 * (2 * x))) by omega, hv_even, hv_even, hv_even, hv_even]
theorem tab_eq (k : Nat) (h : k < 16) : hvN 4 k = tab.getD k 0 := by
  have : ∀ k : Fin 16, hvN 4 k.val = tab.getD k.val 0 := by decide +kernel
  exact this ⟨k, h⟩
theorem tab_lt (k : Nat) (h : k < 16) : tab.getD k 0 < 4294967296 := by
  have : ∀ k : Fin 16, tab.getD k.val 0 < 4294967296 := by decide +kernel
  exact this ⟨k, h⟩
theorem split16 (c : Nat) : c = (c / 16 * 16) ^^^ (c % 16) := by
  apply Nat.eq_of_testBit_eq
  intro i
  have h1 : (c / 16 * 16).testBit i = (decide (4 ≤ i) && c.testBit i) := by
    rw [show c / 16 * 16 = (c >>> 4) <<< 4 by rw [Nat.shiftRight_eq_div_pow, Nat.shiftLeft_eq], Nat.testBit_shiftLeft, Nat.testBit_shiftRight]
    by_cases h : 4 ≤ i
    · rw [show 4 + (i - 4) = i by omega]
    · simp [h]
  have h2 : (c % 16).testBit i = (decide (i < 4) && c.testBit i) := Nat.testBit_mod_two_pow c 4 i
  rw [Nat.testBit_xor, h1, h2]
  by_cases h : 4 ≤ i
  · simp [h, show ¬ i < 4 by omega]
  · simp [h, show i < 4 by omega]
theorem xor_div (c h : Nat) (hh : h < 16) : (c ^^^ h) / 16 = c / 16 := by
  have : (c ^^^ h) >>> 4 = c >>> 4 ^^^ h >>> 4 := Nat.shiftRight_xor_distrib
  rw [Nat.shiftRight_eq_div_pow, Nat.shiftRight_eq_div_pow, Nat.shiftRight_eq_div_pow] at this
  rw [show h / 2 ^ 4 = 0 by omega, Nat.xor_zero] at this
  exact this
theorem four (c h : Nat) (hh : h < 16) : hvN 4 (c ^^^ h) = take4 c h := by
  rw [split16 (c ^^^ h), hvN_xor, hvN_even, tab_eq _ (Nat.mod_lt _ (by omega)), xor_div c h hh]
  rfl
theorem hvN_add (n : Nat) : ∀ c, hvN (n + 4) c = hvN 4 (hvN n c) := by
  induction n with
  | zero => intro c; rfl
  | succ n ih => intro c; show hvN (n + 4) (hv c) = _; rw [ih]; rfl
theorem byte_eq (c b : Nat) (hb : b < 256) : byte c b = take4 (take4 c (b % 16)) (b / 16) := by
  have e : c ^^^ b = (c ^^^ (b % 16)) ^^^ (b / 16 * 16) := by
    conv => lhs; rw [split16 b]
    rw [Nat.xor_assoc, Nat.xor_comm (b % 16)]
  unfold byte
  rw [show (8 : Nat) = 4 + 4 from rfl, hvN_add, e, hvN_xor 4 (c ^^^ (b % 16)), hvN_even, four c _ (Nat.mod_lt _ (by omega)), four _ _ (by omega)]
theorem hv_lt (c : Nat) (h : c < 4294967296) : hv c < 4294967296 := by
  unfold hv
  split
  · exact Nat.xor_lt_two_pow (n := 32) (by omega) (by omega)
  · omega
theorem hvN_lt (n : Nat) : ∀ c, c < 4294967296 → hvN n c < 4294967296 := by
  induction n with
  | zero => intro c h; exact h
  | succ n ih => intro c h; exact ih _ (hv_lt c h)
theorem xor_lt (a b : Nat) (ha : a < 4294967296) (hb : b < 4294967296) : a ^^^ b < 4294967296 := Nat.xor_lt_two_pow (n := 32) ha hb
theorem byte_lt (c b : Nat) (h : c < 4294967296) (hb : b < 256) : byte c b < 4294967296 := hvN_lt 8 _ (xor_lt c b h (by omega))
theorem take4_lt (c h : Nat) (hc : c < 4294967296) (hh : h < 16) : take4 c h < 4294967296 := by
  rw [← four c h hh]; exact hvN_lt 4 _ (xor_lt c h hc (by omega))
theorem sum_snoc (l : List UInt8) (b : UInt8) : sum (l ++ [b]) = byte (sum l) b.toNat := by simp [sum, List.foldl_append]
theorem foldl_lt (l : List UInt8) : ∀ c, c < 4294967296 → l.foldl (fun c b => byte c b.toNat) c < 4294967296 := by
  induction l with
  | nil => intro c h; exact h
  | cons b l ih => intro c h; exact ih _ (byte_lt c b.toNat h b.toNat_lt)
theorem sum_lt (l : List UInt8) : sum l < 4294967296 := foldl_lt l _ (by omega)
theorem hvN_snoc (n : Nat) : ∀ c, hvN (n + 1) c = hv (hvN n c) := by
  induction n with
  | zero => intro c; rfl
  | succ n ih => intro c; show hvN (n + 1) (hv c) = _; rw [ih]; rfl
theorem sum_step (s : ByteArray) (k : Nat) (h : k < s.size) : sum (s.data.toList.take (k + 1)) = byte (sum (s.data.toList.take k)) s[k].toNat := by
  rw [List.take_succ_eq_append_getElem (by simpa using h), sum_snoc]; rfl

end Go.Proofs.YtdjhdcchlfbanaaDoor.CrcM
