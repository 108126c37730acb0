/- Chapter 11's draws: some map, of 16 frames or of 15. Condition: none. -/
import Derived.Test.YtjdmohadgonfdaaDrawE
import Derived.Test.YtjdmohadgonfdaaMapS
namespace Go.Proofs.Ytjdmohadgonfdaa.BmD
open Go.RowKit Go.Deep Num RowC TyA TyM TyB TyT DrawE DrawR
set_option maxRecDepth 100000
set_option linter.unusedVariables false
set_option linter.unusedSimpArgs false

/-- A row of truths of the call's own, whatever they are. -/
def Bits (w : World) (B : Nat) : Prop := ∃ l : List Bool, l.length = 16 ∧ w.ownsRow 0 4 1 (.slice (some ⟨B, 0, none⟩) 16 16) 16 (l.map cB)
theorem Bits.inv {k w g w1 B} (h : Bits w B) (hi : Inv k w g w1) (hb : B ≠ g) : Bits w1 B := by
  obtain ⟨l, h1, h2⟩ := h
  exact ⟨l, h1, h2.kept hi.2 (.inr (by simp [Value.ownBlock]; exact hb))⟩
theorem Bits.set {w B} (h : Bits w B) (j : Nat) (q : Bool) : Bits (w.setCell ⟨B, j, none⟩ (.bool q)) B := by
  obtain ⟨l, h1, h2⟩ := h
  refine ⟨l.set j q, by simpa using h1, ?_⟩
  have := (h2.stored j (.bool q)).1
  rw [List.map_set]
  exact this
theorem Bits.cell {w B} (h : Bits w B) (j : Nat) (hj : j < 16) : ∃ q : Bool, w.cell? ⟨B, j, none⟩ = some (.bool q) := by
  obtain ⟨l, h1, h2⟩ := h
  refine ⟨l[j]'(by omega), ?_⟩
  rw [h2.cellAt j (by omega), List.getElem?_map, List.getElem?_eq_getElem (by omega)]
  rfl
theorem Bits.frozen {w B} (h : Bits w B) (j : Nat) : w.frozen? ⟨B, j, none⟩ = false := by
  obtain ⟨l, h1, h2⟩ := h
  exact h2.frozenAt j
def MapP (k : Fx) (w : World) (g : Nat) (e : Ending) (w' : World) : Prop := ∃ l v b, e = .returned v ∧ OBoolS w' v l b ∧ (l.length = 16 ∨ l.length = 15) ∧ (∀ y ∈ b, w.heap.size ≤ y) ∧ Inv k w g w'
theorem fin16 {k w g w' B} (h : Bits w' B) (hB : w.heap.size ≤ B) (hi : Inv k w g w') : MapP k w g (.returned (.slice (some ⟨B, 0, none⟩) 16 16)) w' := by
  obtain ⟨l, h1, h2⟩ := h
  exact ⟨l, _, [B], rfl, ⟨by rw [h1]; exact h2, rfl⟩, .inl h1, by simpa using hB, hi⟩
theorem fin15 {k w g w' B} (h : Bits w' B) (hB : w.heap.size ≤ B) (hi : Inv k w g w') : MapP k w g (.returned (.slice (some ⟨B, 0, none⟩) 15 16)) w' := by
  obtain ⟨l, h1, h2⟩ := h
  refine ⟨l.take 15, _, [B], rfl, ⟨?_, rfl⟩, .inr (by simp; omega), by simpa using hB, hi⟩
  rcases h2.2 with ⟨hh, _⟩ | ⟨g', cap, cur, hh, h3, h4, h5, h6, h7, h8⟩
  · simp at hh
  · simp at hh
    obtain ⟨rfl, rfl⟩ := hh
    refine ⟨by simp, .inr ⟨B, 16, cur, by simp [h1], Nat.zero_le _, h4, by simp; omega, h6, h7, ?_⟩⟩
    have e : (l.take 15).length * 1 = 15 := by simp; omega
    rw [e, List.map_take, ← h8, List.take_take]
    rfl
set_option maxHeartbeats 2000000 in
theorem map_any (k : Fx) (w : World) (g : Nat) (c : On k w g) : Calls Try.prog 24 #[.pointer (some ⟨g, 0, none⟩)] w fun e w' => MapP k w g e w' := by
  obtain ⟨i0, hi, hz0, hz1, hz2⟩ := info_parts info_BoolS
  have HON := hd c
  have hgl := c.lt
  clear c
  go_enter Try.func24, Try.ntmps24
  go_wp2_with (at_make; refine wpList_make_full _ rfl _ _ 24 rfl w.heap.size 4 i0 (.bool false) 1 Try.underlying24 hi hz0 hz1 .i64 .i64 _ _ 16 rfl rfl rfl rfl (by rw [hz2]; omega) (by unfold maxLen; omega) (Nat.le_refl _) ?_)
  intro w1 hown0 hgrow
  have hbel0 : Below w.heap.size w w1 := (Below.refl _ _).grown hgrow (Nat.le_refl _) (by simp)
  have I1 : Inv k w g w1 := (Inv.refl HON.out).below HON.out hbel0
  have B1 : Bits w1 w.heap.size := ⟨List.replicate 16 false, by simp, by
    have h0 := own_zero hown0
    rw [show (madeCells #[Value.bool false] 16).toList = (List.replicate 16 false).map cB by kernel_rfl] at h0
    exact h0⟩
  obtain ⟨m0, hm0⟩ : ∃ m0, w.heap.size = m0 := ⟨_, rfl⟩
  have hmg : m0 ≠ g := by omega
  have HM0 := hd hm0
  rw [hm0] at B1 ⊢
  clear hgrow hi hz0 hz1 hz2 hown0 hbel0 hm0
  have HI1 := hd I1
  have HB1 := hd B1
  have C1 := hd (below_E k w1 g 5 I1.1 (by omega) (by omega))
  clear I1 B1
  go_wp2_with (go_at_call 34; fail)
  refine C1.out.mono ?_
  rintro e w2 ⟨x, hx0, hx5, rfl, J2⟩
  have HI2 := hd (HI1.out.trans J2)
  have HB2 := hd (HB1.out.inv J2 hmg)
  clear C1 J2 HI1 HB1
  go_wp2_with fail
  go_loopw [5] (fun i wr => ∃ j : Nat, j ≤ 16 ∧ i = .int .i64 j ∧ Hid (Inv k w g wr) ∧ Hid (Bits wr m0)) (fun i _ => 16 - (intOf i).toNat)
  case atStart => exact ⟨0, Nat.zero_le _, rfl, HI2, HB2⟩
  case round =>
    clear HI2 HB2
    obtain ⟨j, hj, rfl, HI, HB⟩ := hrel
    by_cases hlt : j < 16
    · have C2 := hd (once_E k wr g (1 + x) HI.out.1 (by omega))
      have hj0 : (0 : Int) ≤ (j : Int) := by omega
      have hj1 : (j : Int) < 16 := by omega
      go_wp2_with (go_at_call 35; fail)
      refine C2.out.mono ?_
      rintro e w3 ⟨q, rfl, J3⟩
      have HI3 := HI.out.trans J3
      have HB3 := HB.out.inv J3 hmg
      obtain ⟨qq, c0⟩ := HB3.cell j hlt
      have f0 := HB3.frozen j
      have HI4 := hd (HI3.below HON.out (((Below.refl _ w3).mono (by have := HI3.size; omega)).setCell (p := ⟨m0, j, none⟩) (by have := HM0.out; simp; omega) (.bool (!q))))
      have HB4 := hd (HB3.set j (!q))
      clear C2 J3 HI3 HB3 HI HB
      go_wp2
      go_roundw
      case rel => exact ⟨j + 1, by omega, by go_num, HI4, HB4⟩
      case measure => simp [intOf]; omega
    · obtain rfl : j = 16 := by omega
      have C2 := hd (once_E k wr g 6 HI.out.1 (by omega))
      go_wp2_with (go_at_call 35; fail)
      refine C2.out.mono ?_
      rintro e w3 ⟨q, rfl, J3⟩
      have HI3 := hd (HI.out.trans J3)
      have HB3 := hd (HB.out.inv J3 hmg)
      clear C2 J3 HI HB
      cases q with
      | false =>
        have C3 := hd (once_E k w3 g 12 HI3.out.1 (by omega))
        go_wp2_with (go_at_call 35; fail)
        refine C3.out.mono ?_
        rintro e w4 ⟨q, rfl, J4⟩
        have HI4 := hd (HI3.out.trans J4)
        have HB4 := hd (HB3.out.inv J4 hmg)
        clear C3 J4 HI3 HB3
        cases q with
        | false =>
          go_wp2
          go_ret
          exact fin16 HB4.out (by have := HM0.out; omega) HI4.out
        | true =>
          go_wp2
          go_ret
          exact fin15 HB4.out (by have := HM0.out; omega) HI4.out
      | true =>
        obtain ⟨wo, rfl⟩ : ∃ wo, wo = w3 := ⟨w3, rfl⟩
        go_wp2_with fail
        go_loopw [6] (fun i wr2 => ∃ j : Nat, j ≤ 16 ∧ i = .int .i64 j ∧ Hid (Inv k w g wr2) ∧ Hid (Bits wr2 m0)) (fun i _ => 16 - (intOf i).toNat)
        case atStart => exact ⟨0, Nat.zero_le _, rfl, HI3, HB3⟩
        case round =>
          clear HI3 HB3
          obtain ⟨j, hj, rfl, HI, HB⟩ := hrel
          by_cases hlt : j < 16
          · obtain ⟨qq, c0⟩ := HB.out.cell j hlt
            have f0 := HB.out.frozen j
            have hj0 : (0 : Int) ≤ (j : Int) := by omega
            have hj1 : (j : Int) < 16 := by omega
            have HI4 := hd (HI.out.below HON.out (((Below.refl _ wr).mono (by have := HI.out.size; omega)).setCell (p := ⟨m0, j, none⟩) (by have := HM0.out; simp; omega) (.bool true)))
            have HB4 := hd (HB.out.set j true)
            clear HI HB
            go_wp2
            go_roundw
            case rel => exact ⟨j + 1, by omega, by go_num, HI4, HB4⟩
            case measure => simp [intOf]; omega
          · obtain rfl : j = 16 := by omega
            have C3 := hd (once_E k wr g 12 HI.out.1 (by omega))
            go_wp2_with (go_at_call 35; fail)
            refine C3.out.mono ?_
            rintro e w4 ⟨q, rfl, J4⟩
            have HI4 := hd (HI.out.trans J4)
            have HB4 := hd (HB.out.inv J4 hmg)
            clear C3 J4 HI HB
            cases q with
            | false =>
              go_wp2
              go_ret
              exact fin16 HB4.out (by have := HM0.out; omega) HI4.out
            | true =>
              go_wp2
              go_ret
              exact fin15 HB4.out (by have := HM0.out; omega) HI4.out
/-- What DrawMapTake answers. -/
def DrawP (w : World) (e : Ending) (w' : World) : Prop := ∃ l v b, e = .returned v ∧ OBoolS w' v l b ∧ (l.length = 16 ∨ l.length = 15) ∧ (∀ y ∈ b, w.heap.size ≤ y) ∧ Below w.heap.size w w'
set_option maxHeartbeats 1000000 in
theorem draw_any (a : Option Addr) (len cap : Nat) (cs : List UInt8) (w : World) (c : DrawR.Code w a len cs) : Calls Try.prog 9 #[.slice a len cap] w fun e w' => DrawP w e w' := by
  have C1 := hd (new_E a len cap cs w c)
  clear c
  go_enter Try.func9, Try.ntmps9
  go_wp2_with (go_at_call 23; fail)
  refine C1.out.mono ?_
  rintro e w1 ⟨rfl, O1, hb1⟩
  have C2 := hd (map_any _ w1 w.heap.size O1)
  have HB := hd hb1
  have hs1 := hb1.size
  clear C1 hb1 O1
  go_wp2_with (go_at_call 24; fail)
  refine C2.out.mono ?_
  rintro e w2 ⟨l, v, b, rfl, hO, hl, hg, hI⟩
  have HP := hd (show DrawP w (.returned v) w2 from ⟨l, v, b, rfl, hO, hl, fun y hy => by have := hg y hy; omega, HB.out.trans ((Below.refl _ w1).mono hs1 |>.grown hI.2 (by omega) (by simp))⟩)
  obtain ⟨x, y, rfl⟩ := gv_BoolS.slice hO
  clear C2 hO hl hg hI
  go_wp2
  go_ret
  exact HP.out

end Go.Proofs.Ytjdmohadgonfdaa.BmD
