/- The walk of FnBitmap: frames are taken one behind the other, each once, until none is left; what is given is taken again. Condition: none. -/
import Derived.Test.YtjdmohadgonfdaaBmD
import Derived.Test.YtjdmohadgonfdaaMapI
namespace Go.Proofs.Ytjdmohadgonfdaa.BmW
open Go.RowKit Go.Deep Num RowC TyA TyM TyB TyT MapS BmD
set_option maxRecDepth 100000
set_option linter.unusedVariables false
set_option linter.unusedSimpArgs false

theorem big_no (a : Option Addr) (len cap : Nat) (w : World) (h : len ≤ 1048576) :
    Calls Try.prog 8 #[.slice a len cap] w fun e w' => e = .returned (.bool false) ∧ w = w' := by
  have h' : decide ((1048576 : Int) < (len : Int)) = false := by simp; omega
  go_enter Try.func8, Try.ntmps8
  go_wp2
  go_ret
  exact ⟨by simp, rfl⟩
theorem big_yes (a : Option Addr) (len cap : Nat) (w : World) (h : 1048576 < len) :
    Calls Try.prog 8 #[.slice a len cap] w fun e w' => e = .returned (.bool true) ∧ w = w' := by
  have h' : decide ((1048576 : Int) < (len : Int)) = true := by simp; omega
  go_enter Try.func8, Try.ntmps8
  go_wp2
  go_ret
  exact ⟨by simp, rfl⟩
/-- The code's number at place 0: some byte. -/
theorem at0 (a : Option Addr) (len cap : Nat) (cs : List UInt8) (w : World) (hb : len ≤ 1048576) (c : DrawR.Code w a len cs) :
    Calls Try.prog 13 #[.slice a len cap, .int .i64 0] w fun e w' => (∃ x : Int, 0 ≤ x ∧ x < 256 ∧ e = .returned (.int .i64 x)) ∧ w = w' := by
  obtain ⟨hln, hbig, hcode⟩ := c
  by_cases h0 : len = 0
  · clear hln hcode
    subst h0
    go_enter Try.func13, Try.ntmps13
    go_wp2
    go_ret
    exact ⟨⟨0, by omega, by omega, rfl⟩, rfl⟩
  · rcases hcode with hcode | ⟨b, off, rfl, hc⟩
    · exact absurd hcode h0
    have c0 := hc 0 (by omega)
    rw [Nat.add_zero] at c0
    have hp : decide (0 < len) = true := by simp; omega
    have hp' : decide ((0 : Int) < (len : Int)) = true := by simp; omega
    obtain ⟨q, hq⟩ : ∃ q : Nat, (cs[0]'(by omega)).toNat = q := ⟨_, rfl⟩
    have hq8 : q < 256 := by rw [← hq]; exact UInt8.toNat_lt _
    rw [hq] at c0
    clear hc hq
    go_enter Try.func13, Try.ntmps13
    go_wp2
    go_ret
    exact ⟨⟨(q : Int), by omega, by omega, by first | rfl | (simp; omega)⟩, rfl⟩

/-- What the taking has left: i frames have gone, all up to 'last' are taken, what is free was free. -/
structure Left (l x : List Bool) (i : Nat) (last : Int) : Prop where
  len : x.length = 16
  free : freeN x + i = freeN l
  upto : ∀ (j : Nat), (j : Int) ≤ last → j < 16 → x[j]? = some true
  was : ∀ (j : Nat), x[j]? = some false → l[j]? = some false
theorem free_zero {x : List Bool} (h : freeN x = 0) : ∀ (j : Nat) (b : Bool), x[j]? = some b → b = true := by
  intro j b hb
  cases b with
  | true => rfl
  | false =>
    exfalso
    unfold freeN at h
    have : false ∈ x.filter (fun b => !b) := List.mem_filter.2 ⟨List.mem_of_getElem? hb, rfl⟩
    rw [List.eq_nil_of_length_eq_zero h] at this
    simp at this
theorem fst_full {x : List Bool} (h : freeN x = 0) : fst x = x.length := by
  have h1 := fst_le x
  rcases Nat.lt_or_ge (fst x) x.length with h2 | h2
  · exfalso
    have h3 := List.findIdx_getElem (w := h2) (p := fun b => !b)
    have h4 := free_zero h (fst x) _ (List.getElem?_eq_getElem h2)
    unfold fst at h4
    rw [h4] at h3
    simp at h3
  · omega
theorem fst_some {x : List Bool} (h : 0 < freeN x) : fst x < x.length ∧ x[fst x]? = some false := by
  have h1 := fst_le x
  rcases Nat.lt_or_ge (fst x) x.length with h2 | h2
  · refine ⟨h2, ?_⟩
    have h3 := List.findIdx_getElem (w := h2) (p := fun b => !b)
    rw [List.getElem?_eq_getElem h2]
    have h4 : (!x[fst x]) = true := h3
    simpa using h4
  · exfalso
    unfold freeN at h
    obtain ⟨b, hb⟩ := List.exists_mem_of_length_pos h
    obtain ⟨hm, hf⟩ := List.mem_filter.1 hb
    have : fst x < x.length := List.findIdx_lt_length_of_exists ⟨b, hm, hf⟩
    omega
theorem freeN_set {x : List Bool} {j : Nat} (h : x[j]? = some false) : freeN (x.set j true) + 1 = freeN x := by
  obtain ⟨hj, hx⟩ := List.getElem?_eq_some_iff.1 h
  have e1 : x = x.take j ++ (false :: x.drop (j + 1)) := by
    have := List.take_append_drop j x
    rw [List.drop_eq_getElem_cons hj, hx] at this
    exact this.symm
  have e2 : x.set j true = x.take j ++ (true :: x.drop (j + 1)) := by
    rw [List.set_eq_take_append_cons_drop, if_pos hj]
  rw [e2]
  conv => rhs; rw [e1]
  unfold freeN
  simp [List.filter_append]
  omega
theorem Left.step {l x : List Bool} {i : Nat} {last : Int} (h : Left l x i last) (hi : i < freeN l) : (fst x < 16 ∧ last < (fst x : Int) ∧ l[fst x]? = some false) ∧ Left l (x.set (fst x) true) (i + 1) (fst x : Int) := by
  have hp : 0 < freeN x := by have := h.free; omega
  obtain ⟨h1, h2⟩ := fst_some hp
  have hl := h.len
  refine ⟨⟨by omega, ?_, h.was _ h2⟩, ⟨by simpa using hl, by have := freeN_set h2; have := h.free; omega, fun j hj hj16 => ?_, fun j hj => ?_⟩⟩
  · rcases Int.lt_or_le last (fst x : Int) with h3 | h3
    · exact h3
    · have := h.upto (fst x) h3 (by omega)
      rw [h2] at this
      simp at this
  · by_cases e : j = fst x
    · subst e
      rw [List.getElem?_set_self (by omega)]
    · rw [List.getElem?_set_ne (fun hh => e hh.symm)]
      have hlt : j < fst x := by omega
      have := List.not_of_lt_findIdx (p := fun b => !b) (xs := x) (show j < x.findIdx (fun b => !b) from hlt)
      rw [List.getElem?_eq_getElem (by omega)]
      simp at this
      rw [this]
  · by_cases e : j = fst x
    · subst e
      rw [List.getElem?_set_self (by omega)] at hj
      simp at hj
    · rw [List.getElem?_set_ne (fun hh => e hh.symm)] at hj
      exact h.was j hj
/-- Full, one given, and taken again. -/
theorem full_again {x : List Bool} (hl : x.length = 16) (h : freeN x = 0) (k : Nat) (hk : k < 16) :
    take1 x = -1 ∧ giveB x (k : Int) = true ∧ give0 x (k : Int) = x.set k false ∧ take1 (x.set k false) = (k : Int) ∧ free0 (take0 (x.set k false)) = 0 := by
  have hok : okB x = true := by simp [okB, hl]
  have hoks : okB (x.set k false) = true := by simp [okB, hl]
  have hx : x[k]? = some true := by
    rw [List.getElem?_eq_getElem (by omega)]
    rw [free_zero h k _ (List.getElem?_eq_getElem (by omega))]
  have hg : giveB x (k : Int) = true := by
    unfold giveB
    rw [hok, Int.toNat_natCast, List.getD_eq_getElem?_getD, hx]
    simp [hl]
    omega
  have hfst : fst (x.set k false) = k := by
    refine fst_at (fun i hi => ?_) (List.getElem?_set_self (by omega))
    rw [List.getElem?_set_ne (by omega), List.getElem?_eq_getElem (by omega)]
    rw [free_zero h i _ (List.getElem?_eq_getElem (by omega))]
  have hset : (x.set k false).set k true = x := by
    rw [List.set_set]
    obtain ⟨h1, h2⟩ := List.getElem?_eq_some_iff.1 hx
    rw [← h2]
    simp
  refine ⟨?_, hg, ?_, ?_, ?_⟩
  · unfold take1; rw [hok, fst_full h]; simp
  · unfold give0; rw [hok, hg]; simp
  · unfold take1; rw [hoks, hfst]; simp [hl, hk]
  · unfold take0; rw [hoks, hfst]; simp only [if_true]; rw [hset]; unfold free0; rw [hok, h]; rfl
set_option maxHeartbeats 8000000 in
theorem core (a : Option Addr) (len cap : Nat) (cs : List UInt8) (w : World) (hb : len ≤ 1048576) (c : DrawR.Code w a len cs) :
    Calls Try.prog 3 #[.slice a len cap] w fun e w' => e = .returned (.bool true) ∧ Below w.heap.size w w' := by
  have HBG := hd (big_no a len cap w hb)
  have HDR := hd (draw_any a len cap cs w c)
  have HAT := hd (fun X (hX : Below w.heap.size w X) => at0 a len cap cs X hb (c.below hX))
  clear c
  go_enter Try.func3, Try.ntmps3
  go_wp2_with (go_at_call 8; refine HBG.out.mono ?_; rintro e w' ⟨rfl, rfl⟩)
  go_wp2_with (go_at_call 9; fail)
  refine HDR.out.mono ?_
  rintro e w1 ⟨l, v, b, rfl, hO, hl, hg, hb1⟩
  clear HBG HDR hg
  have hz : z_BoolS l ≤ 1048576 := by unfold z_BoolS; omega
  obtain ⟨mx, my, rfl⟩ := gv_BoolS.slice hO
  have HO := hd hO
  have HFR := hd (MapI.free_any l _ b w1 hz hO)
  have HHL := hd hl
  clear hl hO
  go_wp2_with (go_at_call 10; fail)
  refine HFR.out.mono ?_
  rintro e w2 ⟨rfl, hb2⟩
  have hO2 := gv_BoolS.below HO.out hb2
  replace hb1 := hb1.trans (hb2.mono hb1.size)
  have HOK := hd (mapOk_any _ l b w2 hO2 (by unfold z_BoolS at hz; omega))
  clear HFR hb2 HO
  have HO := hd hO2
  have HB := hd hb1
  clear hO2 hb1
  by_cases h16 : l.length = 16
  · have hq : okB l = true := by simp [okB, h16]
    have hf : free0 l = (freeN l : Int) := by unfold free0; rw [hq]; rfl
    rw [hq] at HOK
    have HF0 := hd hf
    rw [hf]
    have hfl := freeN_le l
    have hn16 : freeN l ≤ 16 := by omega
    obtain ⟨n, hn⟩ : ∃ n, freeN l = n := ⟨_, rfl⟩
    have HN := hd hn
    have H16 := hd h16
    have hp1 : l.length ≤ 16 := by omega
    have hp2 : 16 ≤ l.length := by omega
    rw [hn] at hn16 ⊢
    clear hf hn hfl h16 HHL
    go_wp2_with (go_at_call 11; refine HOK.out.mono ?_; rintro e w' ⟨rfl, rfl⟩)
    go_loopw [7, 8, 9] (fun xv lv iv wr => ∃ (i : Nat) (x : List Bool) (last : Int) (xx : Option Addr) (xy : Nat) (bx : List Nat), i ≤ n ∧ iv = .int .i64 i ∧ lv = .int .i64 last ∧ -1 ≤ last ∧ last ≤ 16 ∧ xv = .slice xx x.length xy ∧ Hid (Left l x i last) ∧ Hid (OBoolS wr (.slice xx x.length xy) x bx) ∧ Hid (OBoolS wr (.slice mx l.length my) l b) ∧ Hid (Below w.heap.size w wr)) (fun _ _ iv _ => n - (intOf iv).toNat)
    case atStart => exact ⟨0, l, -1, mx, my, b, Nat.zero_le _, rfl, rfl, by omega, by omega, rfl, hd ⟨H16.out, rfl, fun j hj => by omega, fun j hj => hj⟩, HO, HO, HB⟩
    case round =>
      clear HO HB HOK
      obtain ⟨i, x, last, xx, xy, bx, hi, rfl, rfl, hl0, hl1, rfl, HL, HX, HO, HB⟩ := hrel
      have hxz : z_BoolS x ≤ 1048576 := by unfold z_BoolS; have := HL.out.len; omega
      have HT := hd (MapI.take_any x _ bx wr hxz HX.out)
      by_cases hlt : i < n
      · obtain ⟨⟨s1, s2, s3⟩, hL'⟩ := HL.out.step (by rw [HN.out]; exact hlt)
        have hlen := HL.out.len
        have hokx : okB x = true := by simp [okB, hlen]
        have ht1 : take1 x = (fst x : Int) := by unfold take1; rw [hokx]; simp; omega
        have ht0 : take0 x = x.set (fst x) true := by unfold take0; rw [hokx]; rfl
        rw [ht1, ht0] at HT
        obtain ⟨f, hf⟩ : ∃ f, fst x = f := ⟨_, rfl⟩
        rw [hf] at HT hL' s1 s2 s3
        have HL' := hd hL'
        have HS3 := hd s3
        have d1 : decide ((f : Int) ≤ last) = false := by simp; omega
        have d2 : decide ((16 : Int) ≤ (f : Int)) = false := by simp; omega
        have hf0 : (0 : Int) ≤ (f : Int) := by omega
        have hf1 : (f : Int) < (l.length : Int) := by omega
        have hii : (i : Int) < (n : Int) := by omega
        clear hL' s3 hf ht1 ht0 HL hokx hlen
        go_wp2_with (go_at_call 12; fail)
        refine HT.out.mono ?_
        rintro e w3 ⟨u, d, rfl, hU, _, _, hb3⟩
        have HO3 := hd (gv_BoolS.below HO.out hb3)
        have HB3 := hd (HB.out.trans (hb3.mono HB.out.size))
        obtain ⟨ux, uy, rfl⟩ := gv_BoolS.slice hU
        have HU := hd hU
        clear HT hb3 HO HB hU HX
        obtain ⟨gm, c0, rfl⟩ : ∃ gm, w3.cell? ⟨gm, f, none⟩ = some (.bool false) ∧ mx = some ⟨gm, 0, none⟩ := by
          rcases so_cases HO3.out with ⟨hh, h0, _⟩ | ⟨gm, cap', hh, _, _, _, hc⟩
          · rw [h0] at hp2; simp at hp2
          · simp at hh
            exact ⟨gm, hc f false HS3.out, hh.1⟩
        go_wp2
        go_roundw
        case rel => exact ⟨i + 1, x.set f true, (f : Int), ux, uy, d, by omega, by go_num, rfl, by omega, by omega, by simp, HL', HU, HO3, HB3⟩
        case measure => simp [intOf]; omega
      · obtain rfl : i = n := by omega
        have hfx : freeN x = 0 := by have := HL.out.free; have := HN.out; omega
        have hlen := HL.out.len
        have hii : decide ((i : Int) < (i : Int)) = false := by simp
        have HFX := hd hfx
        have HLN := hd hlen
        have ht1 : take1 x = -1 := (full_again hlen hfx 0 (by omega)).1
        rw [ht1] at HT
        clear hfx hlen ht1 HL
        go_wp2_with (go_at_call 12; fail)
        refine HT.out.mono ?_
        rintro e w3 ⟨u, d, rfl, hU, _, _, hb3⟩
        have hO3 := gv_BoolS.below HO.out hb3
        have hX3 := gv_BoolS.below HX.out hb3
        have hB3 := HB.out.trans (hb3.mono HB.out.size)
        obtain ⟨ux, uy, rfl⟩ := gv_BoolS.slice hU
        have HA := hd (HAT.out w3 hB3)
        have HO3 := hd hO3
        have HX3 := hd hX3
        have HB3 := hd hB3
        clear HT hb3 HO HB HX hU hO3 hX3 hB3 HAT
        go_wp2_with (go_at_call 13; fail)
        refine HA.out.mono ?_
        rintro e w3' ⟨⟨y, hy0, hy1, rfl⟩, rfl⟩
        obtain ⟨k, hk⟩ : ∃ k : Nat, y % 16 = (k : Int) := ⟨(y % 16).toNat, by omega⟩
        have hk16 : k < 16 := by omega
        have hty : Int.tmod y 16 = (k : Int) := by rw [Int.tmod_eq_emod_of_nonneg hy0]; exact hk
        obtain ⟨_, e2, e3, e4, e5⟩ := full_again HLN.out HFX.out k hk16
        have hxs : (x.set k false).length = 16 := by rw [List.length_set]; exact HLN.out
        have HGV := hd (MapI.give_any x (k : Int) _ bx w3 (by unfold z_BoolS; have := HLN.out; omega) HX3.out ⟨by omega, by omega⟩)
        rw [e2, e3] at HGV
        have HE4 := hd e4
        have HE5 := hd e5
        have HXS := hd hxs
        clear HA e2 e3 e4 e5 hxs
        go_wp2_with (go_at_call 14; fail)
        refine HGV.out.mono ?_
        rintro e w4 ⟨u4, d4, rfl, hU4, _, _, hb4⟩
        have hO4 := gv_BoolS.below HO3.out hb4
        have hB4 := HB3.out.trans (hb4.mono HB3.out.size)
        have HT4 := hd (MapI.take_any _ _ d4 w4 (by unfold z_BoolS; have := HXS.out; omega) hU4)
        rw [HE4.out] at HT4
        obtain ⟨x4, y4, rfl⟩ := gv_BoolS.slice hU4
        simp only [List.length_set] at HT4
        have HO4 := hd hO4
        have HB4 := hd hB4
        clear HGV hb4 hO4 hB4 hU4 HO3 HB3 HX3
        go_wp2_with (go_at_call 12; fail)
        refine HT4.out.mono ?_
        rintro e w5 ⟨u5, d5, rfl, hU5, _, _, hb5⟩
        have hO5 := gv_BoolS.below HO4.out hb5
        have hB5 := HB4.out.trans (hb5.mono HB4.out.size)
        have hz5 : z_BoolS (take0 (x.set k false)) ≤ 1048576 := by
          unfold z_BoolS take0
          have := HXS.out
          split <;> simp at * <;> omega
        have HF5 := hd (MapI.free_any _ _ d5 w5 hz5 hU5)
        rw [HE5.out] at HF5
        obtain ⟨x5, y5, rfl⟩ := gv_BoolS.slice hU5
        have HO5 := hd hO5
        have HB5 := hd hB5
        clear HT4 hb5 hO5 hB5 hU5 HO4 HB4
        go_wp2_with (go_at_call 10; fail)
        refine HF5.out.mono ?_
        rintro e w6 ⟨rfl, hb6⟩
        have hO6 := gv_BoolS.below HO5.out hb6
        have hB6 := HB5.out.trans (hb6.mono HB5.out.size)
        have HS6 := hd (spec_free l _ b w6 hz hO6)
        have hfn : free0 l = (i : Int) := by rw [HF0.out, HN.out]
        rw [hfn] at HS6
        have HB6 := hd hB6
        clear HF5 hb6 hO6 hB6 HO5 HB5 hfn
        go_wp2_with (go_at_call 15; fail)
        refine HS6.out.mono ?_
        rintro e w7 ⟨rfl, hb7⟩
        have HB7 := hd (HB6.out.trans (hb7.mono HB6.out.size))
        clear HS6 hb7
        go_wp2
        go_ret
        exact ⟨by simp, HB7.out⟩
  · have hq : okB l = false := by simp [okB, h16]
    have hf : free0 l = 0 := by unfold free0; rw [hq]; rfl
    have ht0 : take0 l = [] := by unfold take0; rw [hq]; rfl
    have ht1 : take1 l = -1 := by unfold take1; rw [hq]; rfl
    rw [hq] at HOK
    rw [hf]
    have HT := hd (MapI.take_any l _ b w2 hz HO.out)
    rw [ht0, ht1] at HT
    clear hf ht0 ht1 h16 HHL
    go_wp2_with (go_at_call 11; refine HOK.out.mono ?_; rintro e w' ⟨rfl, rfl⟩)
    go_wp2_with (go_at_call 12; fail)
    refine HT.out.mono ?_
    rintro e w3 ⟨u, d, rfl, hU, _, _, hb3⟩
    obtain ⟨ux, uy, rfl⟩ := gv_BoolS.slice hU
    have HB3 := hd (HB.out.trans (hb3.mono HB.out.size))
    clear hU hb3 HT
    go_wp2
    go_ret
    exact ⟨by simp, HB3.out⟩

end Go.Proofs.Ytjdmohadgonfdaa.BmW
