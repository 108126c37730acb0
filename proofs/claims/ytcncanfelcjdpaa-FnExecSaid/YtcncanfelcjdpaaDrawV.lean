/- What spec's drawing of programs answers: some list. Condition: none. -/
import Derived.Test.YtcncanfelcjdpaaDrawQ
namespace Go.Proofs.Ytcncanfelcjdpaa.DrawV
open Go.RowKit Go.Deep Num Draw DrawN DrawR InsC InsO ProgC ProgD ReadA ReadB ReadC DrawP DrawQ
set_option linter.unusedVariables false
set_option linter.unusedSimpArgs false

theorem own_keep {W W' : World} {B e s g : Nat} {v : Value} {n : Nat} {xs : List Value} (h : W.ownsRow B e s v n xs) (hg : W.grownBy W' (some g)) (hB : g < B) : W'.ownsRow B e s v n xs := by
  refine ⟨h.1, ?_⟩
  rcases h.2 with h1 | ⟨g', cap, cur, h1, h2, h3, h4⟩
  · exact .inl h1
  · have hlt : g' < W.heap.size := by
      rcases Nat.lt_or_ge g' W.heap.size with h | h
      · exact h
      · rw [Array.getElem?_eq_none h] at h3; cases h3
    exact .inr ⟨g', cap, cur, h1, h2, (hg.block g' hlt (by simp; omega)).trans h3, h4⟩
theorem own_mono {W : World} {B B' e s : Nat} {v : Value} {n : Nat} {xs : List Value} (h : W.ownsRow B e s v n xs) (hB : B' ≤ B) : W.ownsRow B' e s v n xs := by
  refine ⟨h.1, ?_⟩
  rcases h.2 with h1 | ⟨g', cap, cur, h1, h2, h3⟩
  · exact .inl h1
  · exact .inr ⟨g', cap, cur, h1, Nat.le_trans hB h2, h3⟩
theorem own_shape {W : World} {B e s : Nat} {v : Value} {n : Nat} {xs : List Value} (h : W.ownsRow B e s v n xs) : ∃ a c, v = .slice a n c := by
  rcases h.2 with ⟨rfl, h0⟩ | ⟨g', cap', cur', rfl, _⟩
  · exact ⟨_, _, by rw [h0]⟩
  · exact ⟨_, _, rfl⟩

/-- What drawing a program answers. -/
def PrPost (k : Fx) (w : World) (g : Nat) (most : Nat) (e : Ending) (w' : World) : Prop :=
  ∃ v l, e = .returned v ∧ l.length ≤ most ∧ w'.ownsRow w.heap.size 36 4 v l.length (flat l) ∧ Inv k w g w'

set_option maxRecDepth 100000 in
set_option maxHeartbeats 1000000 in
theorem prog_any (k : Fx) (w : World) (g most : Nat) (c : On k w g) (hm : most ≤ 100) :
    Calls Try.prog 49 #[.pointer (some ⟨g, 0, none⟩), .int .i64 most] w fun e w' => PrPost k w g most e w' := by
  have hown0 : (w.alloc (.cells #[] 36)).ownsRow w.heap.size 36 4 (.slice (some ⟨w.heap.size, 0, none⟩) 0 0) ([] : List Q).length (flat []) := World.ownsRow_lit w #[] 0 (Nat.le_refl _) (by unfold maxLen; omega) rfl
  have I0 : Inv k w g (w.alloc (.cells #[] 36)) := (Inv.refl c).below c ((Below.refl _ _).alloc (Nat.le_refl _) _)
  have hgl := c.lt
  have HC := hd c
  clear c
  go_enter Try.func49, Try.ntmps49
  go_wp2_with fail
  refine (below_E k _ g ((most : Int) + 1) I0.1 (by omega) (by omega)).mono ?_
  rintro e w1 ⟨x, x0, x1, rfl, t1⟩
  obtain ⟨n, rfl⟩ := Int.eq_ofNat_of_zero_le x0
  have hown1 := own_keep hown0 t1.2 hgl
  have I1 := I0.trans t1
  clear I0 t1 hown0
  go_wp2_with fail
  go_loopw [5, 6] (fun v nv wr => ∃ (j : Nat) (l : List Q), nv = .int .i64 j ∧ j + l.length ≤ most ∧ wr.ownsRow w.heap.size 36 4 v l.length (flat l) ∧ Inv k w g wr) (fun _ nv _ => (intOf nv).toNat)
  case atStart => exact ⟨n, [], rfl, by simp; omega, hown1, I1⟩
  case round =>
    clear hown1 I1
    obtain ⟨j, l, rfl, hj, hown, I2⟩ := hrel
    by_cases hlt : 0 < j
    · have hj0 : (0 : Int) < j := by omega
      go_wp2_with (go_at_call 51; fail)
      refine (ins_any k wr g I2.1).mono ?_
      rintro e w2 ⟨⟨o, a, b, d⟩, rfl, t2⟩
      have hown2 := own_keep hown t2.2 hgl
      have I3 := I2.trans t2
      have hown3 := hown2.alloc (.cells #[.int .i64 o, .int .i64 a, .int .i64 b, .int .i64 d] 36)
      have HC2 := hd (cells_new w2 o a b d)
      have hbs := I3.size
      clear I2 t2 hown hown2
      go_wp2_with (at_builtin; refine wpList_append_ins rfl _ _ rfl w.heap.size _ l rfl hown3 w2.heap.size ⟨o, a, b, d⟩ rfl HC2.out (by omega) (by simp; omega) ?_)
      intro v2 w3 hown4 hb3 _
      have I4 := (I3.below HC.out ((Below.refl _ _).alloc hbs (.cells #[.int .i64 o, .int .i64 a, .int .i64 b, .int .i64 d] 36))).below HC.out hb3
      have HO := hd hown4
      clear hb3 hown3 hown4 I3
      go_wp2
      go_roundw
      case rel => exact ⟨j - 1, l ++ [⟨o, a, b, d⟩], by go_num, by simp; omega, by simpa using HO.out, I4⟩
      case measure => simp [intOf]; omega
    · obtain rfl : j = 0 := by omega
      go_wp2
      go_ret
      exact ⟨_, l, rfl, by omega, hown, I2⟩

/-- A slice's length. -/
def lenV : Value → Nat
  | .slice _ n _ => n
  | _ => 0
/-- What DrawProgOk answers. -/
def DrPost (w : World) (e : Ending) (w' : World) : Prop := ∃ v l, e = .returned v ∧ l.length ≤ 41 ∧ w'.ownsRow w.heap.size 36 4 v l.length (flat l) ∧ Below w.heap.size w w'
theorem Inv.out {k w w1 w' g} (hb : Below w.heap.size w w1) (hg : w.heap.size ≤ g) (h : Inv k w1 g w') : Below w.heap.size w w' :=
  hb.trans ((Below.refl _ _).grown h.2 hb.size (fun k hk => by simp at hk; omega))

set_option maxRecDepth 100000 in
set_option maxHeartbeats 2000000 in
theorem drawProgOk_any (w : World) (a : Option Addr) (len cap : Nat) (cs : List UInt8) (c : DrawR.Code w a len cs) :
    Calls Try.prog 31 #[.slice a len cap] w fun e w' => DrPost w e w' := by
  have C1 := hd (new_any w a len cap cs c)
  clear c
  go_enter Try.func31, Try.ntmps31
  go_wp2_with fail
  refine C1.out.mono ?_
  rintro e w1 ⟨rfl, c1, hb1⟩
  obtain ⟨k, hk⟩ : ∃ k : Fx, k = ⟨a, len, cap, cs⟩ := ⟨_, rfl⟩
  have O1 : On k w1 w.heap.size := by rw [hk]; exact ⟨_, _, c1⟩
  have hgl : w.heap.size < w1.heap.size := O1.lt
  have HC := hd O1
  clear C1 c1 hk O1
  obtain ⟨gc, hgc⟩ : ∃ gc, gc = w.heap.size := ⟨_, rfl⟩
  rw [← hgc] at HC hgl ⊢
  have HB := hd hb1
  have HG := hd hgc
  clear hb1 hgc
  go_wp2_with fail
  refine (prog_any k w1 gc 8 HC.out (by omega)).mono ?_
  rintro e w2 ⟨v2, l2, rfl, hl2, hown2, I2⟩
  obtain ⟨s2, c2, rfl⟩ := own_shape hown2
  go_wp2_with fail
  refine (once_E k w2 gc 4 I2.1 (by omega)).mono ?_
  rintro e w3 ⟨b3, rfl, t3⟩
  have hown3 := own_keep hown2 t3.2 hgl
  have I3 := I2.trans t3
  clear I2 t3 hown2
  cases b3
  · go_wp2_with fail
    refine (once_E k w3 gc 20 I3.1 (by omega)).mono ?_
    rintro e w5 ⟨b5, rfl, t5⟩
    have hown5 := own_keep hown3 t5.2 hgl
    have I5 := I3.trans t5
    clear I3 t5 hown3
    cases b5
    · go_wp2
      go_ret
      exact ⟨_, l2, rfl, by omega, own_mono hown5 (by have := HG.out; omega), Inv.out HB.out (Nat.le_of_eq HG.out.symm) I5⟩
    · go_wp2_with fail
      refine (below_E k w5 gc 2 I5.1 (by omega) (by omega)).mono ?_
      rintro e w6 ⟨x, x0, x1, rfl, t6⟩
      have hown6 := own_keep hown5 t6.2 hgl
      have I6 := I5.trans t6
      clear I5 t6 hown5
      go_wp2_with fail
      go_loopw [4] (fun v wr => ∃ (l : List Q) (s : Option Addr) (c : Nat), v = .slice s l.length c ∧ l.length ≤ 41 ∧ wr.ownsRow w1.heap.size 36 4 v l.length (flat l) ∧ Inv k w1 gc wr) (fun v _ => 42 - lenV v)
      case atStart => exact ⟨l2, _, _, rfl, by omega, hown6, I6⟩
      case round =>
        clear hown6 I6
        obtain ⟨l, s, c, rfl, hl, hown, I7⟩ := hrel
        by_cases hlt : (l.length : Int) < 40 + x
        · go_wp2_with (go_at_call 51; fail)
          refine (ins_any k wr gc I7.1).mono ?_
          rintro e w8 ⟨⟨o, a', b, d⟩, rfl, t8⟩
          have hown8 := own_keep hown t8.2 hgl
          have I8 := I7.trans t8
          have hown9 := hown8.alloc (.cells #[.int .i64 o, .int .i64 a', .int .i64 b, .int .i64 d] 36)
          have HC2 := hd (cells_new w8 o a' b d)
          have hbs := I8.size
          clear I7 t8 hown hown8
          go_wp2_with (at_builtin; refine wpList_append_ins rfl _ _ rfl w1.heap.size _ l rfl hown9 w8.heap.size ⟨o, a', b, d⟩ rfl HC2.out (by omega) (by simp; omega) ?_)
          intro v9 w9 hown10 hb9 _
          have I9 := (I8.below HC.out ((Below.refl _ _).alloc hbs (.cells #[.int .i64 o, .int .i64 a', .int .i64 b, .int .i64 d] 36))).below HC.out hb9
          have hown11 : w9.ownsRow w1.heap.size 36 4 v9 (l ++ [Q.mk o a' b d]).length (flat (l ++ [Q.mk o a' b d])) := by simpa using hown10
          obtain ⟨s9, c9, rfl⟩ := own_shape hown11
          have HO := hd hown11
          clear hb9 hown9 hown10 hown11 I8
          go_wp2
          go_roundw
          case rel => exact ⟨l ++ [⟨o, a', b, d⟩], s9, c9, by simp, by simp; omega, by simpa using HO.out, I9⟩
          case measure => simp [lenV]; omega
        · go_wp2
          go_ret
          exact ⟨_, l, rfl, hl, own_mono hown (by have := HG.out; omega), Inv.out HB.out (Nat.le_of_eq HG.out.symm) I7⟩
  · go_wp2_with (go_at_call 50; fail)
    refine (any_any k w3 gc I3.1).mono ?_
    rintro e w8 ⟨⟨o, a', b, d⟩, rfl, t8⟩
    have hown8 := own_keep hown3 t8.2 hgl
    have I8 := I3.trans t8
    have hown9 := hown8.alloc (.cells #[.int .i64 o, .int .i64 a', .int .i64 b, .int .i64 d] 36)
    have HC2 := hd (cells_new w8 o a' b d)
    have hbs := I8.size
    clear I3 t8 hown3 hown8
    go_wp2_with (at_builtin; refine wpList_append_ins rfl _ _ rfl w1.heap.size _ l2 rfl hown9 w8.heap.size ⟨o, a', b, d⟩ rfl HC2.out (by omega) (by simp; omega) ?_)
    intro v9 w9 hown10 hb9 _
    have I9 := (I8.below HC.out ((Below.refl _ _).alloc hbs (.cells #[.int .i64 o, .int .i64 a', .int .i64 b, .int .i64 d] 36))).below HC.out hb9
    have hown11 : w9.ownsRow w1.heap.size 36 4 v9 (l2 ++ [Q.mk o a' b d]).length (flat (l2 ++ [Q.mk o a' b d])) := by simpa using hown10
    obtain ⟨l3, hl3⟩ : ∃ l3, l3 = l2 ++ [Q.mk o a' b d] := ⟨_, rfl⟩
    have hl9 : l3.length ≤ 9 := by rw [hl3]; simp; omega
    rw [← hl3] at hown11
    obtain ⟨s9, c9, rfl⟩ := own_shape hown11
    clear hb9 hown9 hown10 I8 hl3
    go_wp2_with fail
    refine (once_E k w9 gc 20 I9.1 (by omega)).mono ?_
    rintro e w5 ⟨b5, rfl, t5⟩
    have hown5 := own_keep hown11 t5.2 hgl
    have I5 := I9.trans t5
    clear I9 t5 hown11
    cases b5
    · go_wp2
      go_ret
      exact ⟨_, l3, rfl, by omega, own_mono hown5 (by have := HG.out; omega), Inv.out HB.out (Nat.le_of_eq HG.out.symm) I5⟩
    · go_wp2_with fail
      refine (below_E k w5 gc 2 I5.1 (by omega) (by omega)).mono ?_
      rintro e w6 ⟨x, x0, x1, rfl, t6⟩
      have hown6 := own_keep hown5 t6.2 hgl
      have I6 := I5.trans t6
      clear I5 t6 hown5
      go_wp2_with fail
      go_loopw [4] (fun v wr => ∃ (l : List Q) (s : Option Addr) (c : Nat), v = .slice s l.length c ∧ l.length ≤ 41 ∧ wr.ownsRow w1.heap.size 36 4 v l.length (flat l) ∧ Inv k w1 gc wr) (fun v _ => 42 - lenV v)
      case atStart => exact ⟨l3, _, _, rfl, by omega, hown6, I6⟩
      case round =>
        clear hown6 I6
        obtain ⟨l, s, c, rfl, hl, hown, I7⟩ := hrel
        by_cases hlt : (l.length : Int) < 40 + x
        · go_wp2_with (go_at_call 51; fail)
          refine (ins_any k wr gc I7.1).mono ?_
          rintro e w8 ⟨⟨o, a', b, d⟩, rfl, t8⟩
          have hown8 := own_keep hown t8.2 hgl
          have I8 := I7.trans t8
          have hown9 := hown8.alloc (.cells #[.int .i64 o, .int .i64 a', .int .i64 b, .int .i64 d] 36)
          have HC2 := hd (cells_new w8 o a' b d)
          have hbs := I8.size
          clear I7 t8 hown hown8
          go_wp2_with (at_builtin; refine wpList_append_ins rfl _ _ rfl w1.heap.size _ l rfl hown9 w8.heap.size ⟨o, a', b, d⟩ rfl HC2.out (by omega) (by simp; omega) ?_)
          intro v9 w9 hown10 hb9 _
          have I9 := (I8.below HC.out ((Below.refl _ _).alloc hbs (.cells #[.int .i64 o, .int .i64 a', .int .i64 b, .int .i64 d] 36))).below HC.out hb9
          have hown11 : w9.ownsRow w1.heap.size 36 4 v9 (l ++ [Q.mk o a' b d]).length (flat (l ++ [Q.mk o a' b d])) := by simpa using hown10
          obtain ⟨s9, c9, rfl⟩ := own_shape hown11
          have HO := hd hown11
          clear hb9 hown9 hown10 hown11 I8
          go_wp2
          go_roundw
          case rel => exact ⟨l ++ [⟨o, a', b, d⟩], s9, c9, by simp, by simp; omega, by simpa using HO.out, I9⟩
          case measure => simp [lenV]; omega
        · go_wp2
          go_ret
          exact ⟨_, l, rfl, hl, own_mono hown (by have := HG.out; omega), Inv.out HB.out (Nat.le_of_eq HG.out.symm) I7⟩

end Go.Proofs.Ytcncanfelcjdpaa.DrawV
