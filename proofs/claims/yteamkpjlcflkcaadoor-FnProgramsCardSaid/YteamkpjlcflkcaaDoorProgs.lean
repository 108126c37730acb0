/- What the law FnPrograms calls beside impl and spec, and the law's own walk at a code. Condition: the library's listed tables lie as the program's own text lays them. -/
import Derived.Test.YteamkpjlcflkcaaDoorDrawW
import Derived.Test.YteamkpjlcflkcaaDoorMarkC
import Derived.Test.YteamkpjlcflkcaaDoorShowC
import Derived.Test.YteamkpjlcflkcaaDoorListM
import Derived.Test.YteamkpjlcflkcaaDoorAsmD
import Derived.Test.YteamkpjlcflkcaaDoorAsmI
import Derived.Test.YteamkpjlcflkcaaDoorListI
import Derived.Deep.RegionWith
import Derived.BigRegion
namespace Go.Proofs.YteamkpjlcflkcaaDoor.Progs
open Go.RowKit Go.Deep Num DrawR InsC InsO ProgC InsJ ProgD ReadM ReadC AsmM TripM ListC ListM DrawV DrawW
set_option linter.unusedVariables false
set_option linter.unusedSimpArgs false

theorem big_any (a : Option Addr) (len cap : Nat) (w : World) (h : len ≤ 1048576) :
    Calls Tryd.prog 6 #[.slice a len cap] w fun e w' => e = .returned (.bool false) ∧ w = w' := by
  go_enter Tryd.func6, Tryd.ntmps6
  go_wp2
  go_ret
  exact ⟨by simp; omega, rfl⟩
theorem big_yes (a : Option Addr) (len cap : Nat) (w : World) (h : 1048576 < len) :
    Calls Tryd.prog 6 #[.slice a len cap] w fun e w' => e = .returned (.bool true) ∧ w = w' := by
  go_enter Tryd.func6, Tryd.ntmps6
  go_wp2
  go_ret
  exact ⟨by simp; omega, rfl⟩
theorem drawShow_any (w : World) (a : Option Addr) (len cap : Nat) (cs : List UInt8) (c : DrawR.Code w a len cs) :
    Calls Tryd.prog 7 #[.slice a len cap] w fun e w' => DrPost w e w' := by
  have C := hd (drawProgOk_any w a len cap cs c)
  clear c
  go_enter Tryd.func7, Tryd.ntmps7
  go_wp2_with (go_at_call 22; fail)
  refine C.out.mono ?_
  rintro e w1 ⟨v, l, rfl, h⟩
  have HH := hd h
  clear h C
  go_wp2
  go_ret
  exact ⟨v, l, rfl, HH.out⟩

theorem same_nil (a a' : Option Addr) (c c' : Nat) (w : World) :
    Calls Tryd.prog 13 #[.slice a 0 c, .slice a' 0 c'] w fun e w' => e = .returned (.bool true) ∧ Below w.heap.size w w' := by
  go_enter Tryd.func13, Tryd.ntmps13
  go_wp2_with fail
  go_loop [5] (fun i => i = .int .i64 0) (fun _ => 0)
  case atStart => rfl
  case round =>
    obtain rfl := hrel
    go_wp2
    go_ret
    exact ⟨rfl, Below.refl _ _⟩
set_option maxHeartbeats 400000 in
theorem same_some (g c g' c' : Nat) (l : List Q) (w : World) (hl : l.length ≤ 1048576) (hg : g < w.heap.size) (hg' : g' < w.heap.size)
    (hc : ∀ i (q : Q), l[i]? = some q → w.cell? ⟨g, i * 4, none⟩ = some (.int .i64 q.o) ∧ w.cell? ⟨g, i * 4 + 1, none⟩ = some (.int .i64 q.a) ∧ w.cell? ⟨g, i * 4 + 2, none⟩ = some (.int .i64 q.b) ∧ w.cell? ⟨g, i * 4 + 3, none⟩ = some (.int .i64 q.c))
    (hc' : ∀ i (q : Q), l[i]? = some q → w.cell? ⟨g', i * 4, none⟩ = some (.int .i64 q.o) ∧ w.cell? ⟨g', i * 4 + 1, none⟩ = some (.int .i64 q.a) ∧ w.cell? ⟨g', i * 4 + 2, none⟩ = some (.int .i64 q.b) ∧ w.cell? ⟨g', i * 4 + 3, none⟩ = some (.int .i64 q.c)) :
    Calls Tryd.prog 13 #[.slice (some ⟨g, 0, none⟩) l.length c, .slice (some ⟨g', 0, none⟩) l.length c'] w fun e w' => e = .returned (.bool true) ∧ Below w.heap.size w w' := by
  go_enter Tryd.func13, Tryd.ntmps13
  go_wp2_with fail
  go_loopw [5] (fun i wr => ∃ k : Nat, k ≤ l.length ∧ i = .int .i64 k ∧ Below w.heap.size w wr) (fun i _ => l.length - (intOf i).toNat)
  case atStart => exact ⟨0, Nat.zero_le _, rfl, Below.refl _ _⟩
  case round =>
    obtain ⟨k, hk, rfl, hbel⟩ := hrel
    by_cases hlt : k < l.length
    · obtain ⟨q, hq⟩ : ∃ q, l[k]? = some q := ⟨l[k], by simp [hlt]⟩
      obtain ⟨d0, d1, d2, d3⟩ := hc k q hq
      have c0 := (hbel.cell (p := ⟨g, k * 4, none⟩) hg).trans d0
      have c1 := (hbel.cell (p := ⟨g, k * 4 + 1, none⟩) hg).trans d1
      have c2 := (hbel.cell (p := ⟨g, k * 4 + 2, none⟩) hg).trans d2
      have c3 := (hbel.cell (p := ⟨g, k * 4 + 3, none⟩) hg).trans d3
      obtain ⟨d0, d1, d2, d3⟩ := hc' k q hq
      have e0 := (hbel.cell (p := ⟨g', k * 4, none⟩) hg').trans d0
      have e1 := (hbel.cell (p := ⟨g', k * 4 + 1, none⟩) hg').trans d1
      have e2 := (hbel.cell (p := ⟨g', k * 4 + 2, none⟩) hg').trans d2
      have e3 := (hbel.cell (p := ⟨g', k * 4 + 3, none⟩) hg').trans d3
      have hk0 : (0 : Int) ≤ k := by omega
      have hk1 : (k : Int) < l.length := by omega
      clear d0 d1 d2 d3 hc hc'
      go_wp2_with fail
      go_region
      all_goals
        go_wp2
        go_roundw
        case rel => exact ⟨k + 1, by omega, by go_num, hbel.drew⟩
        case measure => simp [intOf]; omega
    · go_wp2
      go_ret
      exact ⟨rfl, hbel⟩
theorem same_any (v v' : Value) (l : List Q) (w : World) (h : Lies w v l) (h' : Lies w v' l) (hl : l.length ≤ 1048576) :
    Calls Tryd.prog 13 #[v, v'] w fun e w' => e = .returned (.bool true) ∧ Below w.heap.size w w' := by
  rcases h with ⟨rfl, rfl⟩ | ⟨g, c, rfl, hg, hc⟩
  · rcases h' with ⟨rfl, _⟩ | ⟨g', c', rfl, hg', hc'⟩
    · exact same_nil _ _ _ _ w
    · exact same_nil _ _ _ _ w
  · rcases h' with ⟨rfl, rfl⟩ | ⟨g', c', rfl, hg', hc'⟩
    · exact same_nil _ _ _ _ w
    · exact same_some g c g' c' l w hl hg hg' hc hc'

theorem flat_len {f : Q → List UInt8} {n : Nat} (l : List Q) (h : ∀ q ∈ l, (f q).length ≤ n) : (l.flatMap f).length ≤ n * l.length := by
  induction l with
  | nil => simp
  | cons q l ih =>
    have h1 := h q (by simp)
    have h2 := ih (fun p hp => h p (by simp [hp]))
    simp only [List.flatMap_cons, List.length_append, List.length_cons, Nat.mul_add]
    omega
theorem ans_len (l : List Q) : (ShowC.ans l).length ≤ 7 + 28 * l.length := by
  unfold ShowC.ans
  split
  · have h1 := ShowA.out_len (l.length : Int)
    have h2 := flat_len l (fun q _ => ShowA.show_len q)
    simp only [ShowA.showL, List.length_append]; omega
  · simp
theorem ansL_len (l : List Q) : (ansL l).length ≤ 36 * l.length := by
  unfold ansL
  split
  · rename_i h
    obtain ⟨_, hall⟩ := ShowA.prog_all h
    refine flat_len l fun q hq => ?_
    obtain ⟨i, hi, rfl⟩ := List.getElem_of_mem hq
    have hok := hall i l[i] (by simp [hi])
    have := one_len l[i]
    unfold ansL at this
    rw [if_pos (by simp [progB, hok])] at this
    simpa [listL] using this
  · simp
theorem rd_ans (l : List Q) : rd (ShowC.ans l) = if progB l = true then some l else none := by
  unfold ShowC.ans
  split
  · rename_i h; exact rd_show l h
  · exact rd_nil
theorem asm_ans (l : List Q) (h : progB l = true) : asm (ansL l) = (l, 0) := by
  unfold ansL
  rw [if_pos h]
  exact asm_list l h
theorem bsize (l : List UInt8) : (⟨l.toArray⟩ : ByteArray).size = l.length := by show l.toArray.size = _; simp
theorem blist (l : List UInt8) : (⟨l.toArray⟩ : ByteArray).data.toList = l := by simp

set_option maxRecDepth 100000 in
set_option maxHeartbeats 4000000 in
theorem core (w : World) (a : Option Addr) (len cap : Nat) (cs : List UInt8) (ht : FormT.Tab w) (c : DrawR.Code w a len cs) (hbig : len ≤ 1048576) :
    Calls Tryd.prog 3 #[.slice a len cap] w fun e w' => e = .returned (.bool true) ∧ Below w.heap.size w w' := by
  have HT := hd ht
  have HC := hd c
  clear ht c
  go_enter Tryd.func3, Tryd.ntmps3
  go_wp2_with (go_at_call 6; refine (big_any _ _ _ _ hbig).mono ?_; rintro e w' ⟨rfl, rfl⟩)
  refine (drawShow_any w a len cap cs HC.out).mono ?_
  rintro e w1 ⟨v, l, rfl, hl, hr, hb⟩
  have L := lies_own hr
  have hl1 : l.length ≤ 1048576 := by omega
  have hal := ans_len l
  have hll := ansL_len l
  clear hr
  cases hok : progB l
  · have hrd : rd (ShowC.ans l) = none := by rw [rd_ans, if_neg (by simp [hok])]
    go_wp2_with (go_at_call 9; fail)
    refine (ShowC.impl_any _ _ _ L hl1).mono ?_
    rintro e w2 ⟨rfl, hb2⟩
    replace L := L.below hb2
    replace hb := hb.trans (hb2.mono hb.size)
    clear hb2
    go_wp2_with (go_at_call 8; fail)
    refine (ReadC.impl_any _ _ (by rw [bsize]; omega)).mono ?_
    rintro e w3 ⟨⟨vx, rfl, hx⟩, hb3⟩
    rw [blist, hrd] at hx ⊢
    simp only [Option.isSome_none, Option.getD_none] at hx ⊢
    have X := lies_own hx
    replace L := L.below hb3
    replace hb := hb.trans (hb3.mono hb.size)
    clear hb3 hx
    go_wp2_with (go_at_call 11; fail)
    refine (ListI.impl_any _ _ _ (HT.out.below hb) L hl1).mono ?_
    rintro e w4 ⟨rfl, hb4⟩
    replace L := L.below hb4
    replace X := X.below hb4
    replace hb := hb.trans (hb4.mono hb.size)
    clear hb4
    go_wp2_with (go_at_call 10; fail)
    refine (AsmI.impl_any _ _ (HT.out.below hb) (by rw [bsize]; omega)).mono ?_
    rintro e w5 ⟨⟨vy, rfl, hy⟩, hb5⟩
    rw [blist] at hy ⊢
    have Y := lies_own hy
    replace L := L.below hb5
    replace X := X.below hb5
    replace hb := hb.trans (hb5.mono hb.size)
    clear hb5 hy
    have hpo := fun w L => ProgD.spec_any v l w L hl1
    have hda := fun w c => drawAsm_any w a len cap cs c
    rw [hok] at hpo
    go_wp2_with (go_at_call 12; fail)
    refine (hpo _ L).mono ?_
    rintro e w6 ⟨rfl, hb6⟩
    replace hb := hb.trans (hb6.mono hb.size)
    clear hb6 L X Y
    go_wp2_with (go_at_call 14; fail)
    refine (hda _ (HC.out.below hb)).mono ?_
    rintro e w7 ⟨⟨t, rfl, htl⟩, hb7⟩
    replace hb := hb.trans (hb7.mono hb.size)
    clear hb7
    have hok2 := asm_ok t
    have hbd := asm_bad0 t
    have hl2 := (ShowA.prog_all hok2).1
    have hll2 := ansL_len (asm t).1
    have has2 := asm_ans (asm t).1 hok2
    go_wp2_with (go_at_call 10; fail)
    refine (AsmI.impl_any _ _ (HT.out.below hb) (by rw [bsize]; omega)).mono ?_
    rintro e w8 ⟨⟨vz, rfl, hz⟩, hb8⟩
    rw [blist] at hz ⊢
    obtain ⟨sz, cz, rfl⟩ := own_shape hz
    have ZL := lies_own hz
    replace hb := hb.trans (hb8.mono hb.size)
    clear hb8 hz
    go_wp2_with (go_at_call 15; fail)
    refine (AsmD.spec_any _ _ (by rw [bsize]; omega)).mono ?_
    rintro e w9 ⟨⟨vt, rfl, hvt⟩, hb9⟩
    rw [blist]
    replace ZL := ZL.below hb9
    replace hb := hb.trans (hb9.mono hb.size)
    clear hb9 hvt
    go_wp2_with (go_at_call 11; fail)
    refine (ListI.impl_any _ _ _ (HT.out.below hb) ZL (by omega)).mono ?_
    rintro e w10 ⟨rfl, hb10⟩
    replace ZL := ZL.below hb10
    replace hb := hb.trans (hb10.mono hb.size)
    clear hb10
    go_wp2_with (go_at_call 10; fail)
    refine (AsmI.impl_any _ _ (HT.out.below hb) (by rw [bsize]; omega)).mono ?_
    rintro e w11 ⟨⟨vw, rfl, hw⟩, hb11⟩
    rw [blist, has2] at hw ⊢
    have WL := lies_own hw
    replace ZL := ZL.below hb11
    replace hb := hb.trans (hb11.mono hb.size)
    clear hb11 hw has2 hll2
    generalize asm t = p at *
    obtain ⟨zs, n⟩ := p
    simp only at *
    by_cases hn : n = 0
    · subst hn
      clear hbd
      go_wp2_with (go_at_call 13; fail)
      refine (same_any _ _ zs _ WL ZL (by omega)).mono ?_
      rintro e w12 ⟨rfl, hb12⟩
      replace ZL := ZL.below hb12
      replace hb := hb.trans (hb12.mono hb.size)
      clear hb12 WL
      have hpz := fun w L => ProgD.spec_any (.slice sz zs.length cz) zs w L (by omega)
      rw [hok2] at hpz
      go_wp2_with (go_at_call 12; fail)
      refine (hpz _ ZL).mono ?_
      rintro e w13 ⟨rfl, hb13⟩
      replace hb := hb.trans (hb13.mono hb.size)
      clear hb13
      go_wp2
      go_ret
      exact ⟨rfl, hb⟩
    · have hze := hbd hn
      subst hze
      have hn1 : ((n : Int) == 0) = false := by simp; omega
      have hn2 : ((n : Int) != 0) = true := by simp; omega
      clear hbd hn
      go_wp2
      go_ret
      exact ⟨rfl, hb⟩
  · have hrd : rd (ShowC.ans l) = some l := by rw [rd_ans, if_pos hok]
    go_wp2_with (go_at_call 9; fail)
    refine (ShowC.impl_any _ _ _ L hl1).mono ?_
    rintro e w2 ⟨rfl, hb2⟩
    replace L := L.below hb2
    replace hb := hb.trans (hb2.mono hb.size)
    clear hb2
    go_wp2_with (go_at_call 8; fail)
    refine (ReadC.impl_any _ _ (by rw [bsize]; omega)).mono ?_
    rintro e w3 ⟨⟨vx, rfl, hx⟩, hb3⟩
    rw [blist, hrd] at hx ⊢
    simp only [Option.isSome_some, Option.getD_some] at hx ⊢
    have X := lies_own hx
    replace L := L.below hb3
    replace hb := hb.trans (hb3.mono hb.size)
    clear hb3 hx
    go_wp2_with (go_at_call 11; fail)
    refine (ListI.impl_any _ _ _ (HT.out.below hb) L hl1).mono ?_
    rintro e w4 ⟨rfl, hb4⟩
    replace L := L.below hb4
    replace X := X.below hb4
    replace hb := hb.trans (hb4.mono hb.size)
    clear hb4
    go_wp2_with (go_at_call 10; fail)
    refine (AsmI.impl_any _ _ (HT.out.below hb) (by rw [bsize]; omega)).mono ?_
    rintro e w5 ⟨⟨vy, rfl, hy⟩, hb5⟩
    rw [blist, asm_ans l hok] at hy ⊢
    simp only at hy ⊢
    have Y := lies_own hy
    replace L := L.below hb5
    replace X := X.below hb5
    replace hb := hb.trans (hb5.mono hb.size)
    clear hb5 hy
    have hpo := fun w L => ProgD.spec_any v l w L hl1
    have hda := fun w c => drawAsm_any w a len cap cs c
    rw [hok] at hpo
    go_wp2_with (go_at_call 12; fail)
    refine (hpo _ L).mono ?_
    rintro e w6 ⟨rfl, hb6⟩
    replace L := L.below hb6
    replace X := X.below hb6
    replace Y := Y.below hb6
    replace hb := hb.trans (hb6.mono hb.size)
    clear hb6
    go_wp2_with (go_at_call 13; fail)
    refine (same_any _ _ l _ X L hl1).mono ?_
    rintro e w61 ⟨rfl, hb6⟩
    replace L := L.below hb6
    replace Y := Y.below hb6
    replace hb := hb.trans (hb6.mono hb.size)
    clear hb6 X
    go_wp2_with (go_at_call 13; fail)
    refine (same_any _ _ l _ Y L hl1).mono ?_
    rintro e w62 ⟨rfl, hb6⟩
    replace hb := hb.trans (hb6.mono hb.size)
    clear hb6 Y L
    go_wp2_with (go_at_call 14; fail)
    refine (hda _ (HC.out.below hb)).mono ?_
    rintro e w7 ⟨⟨t, rfl, htl⟩, hb7⟩
    replace hb := hb.trans (hb7.mono hb.size)
    clear hb7
    have hok2 := asm_ok t
    have hbd := asm_bad0 t
    have hl2 := (ShowA.prog_all hok2).1
    have hll2 := ansL_len (asm t).1
    have has2 := asm_ans (asm t).1 hok2
    go_wp2_with (go_at_call 10; fail)
    refine (AsmI.impl_any _ _ (HT.out.below hb) (by rw [bsize]; omega)).mono ?_
    rintro e w8 ⟨⟨vz, rfl, hz⟩, hb8⟩
    rw [blist] at hz ⊢
    obtain ⟨sz, cz, rfl⟩ := own_shape hz
    have ZL := lies_own hz
    replace hb := hb.trans (hb8.mono hb.size)
    clear hb8 hz
    go_wp2_with (go_at_call 15; fail)
    refine (AsmD.spec_any _ _ (by rw [bsize]; omega)).mono ?_
    rintro e w9 ⟨⟨vt, rfl, hvt⟩, hb9⟩
    rw [blist]
    replace ZL := ZL.below hb9
    replace hb := hb.trans (hb9.mono hb.size)
    clear hb9 hvt
    go_wp2_with (go_at_call 11; fail)
    refine (ListI.impl_any _ _ _ (HT.out.below hb) ZL (by omega)).mono ?_
    rintro e w10 ⟨rfl, hb10⟩
    replace ZL := ZL.below hb10
    replace hb := hb.trans (hb10.mono hb.size)
    clear hb10
    go_wp2_with (go_at_call 10; fail)
    refine (AsmI.impl_any _ _ (HT.out.below hb) (by rw [bsize]; omega)).mono ?_
    rintro e w11 ⟨⟨vw, rfl, hw⟩, hb11⟩
    rw [blist, has2] at hw ⊢
    have WL := lies_own hw
    replace ZL := ZL.below hb11
    replace hb := hb.trans (hb11.mono hb.size)
    clear hb11 hw has2 hll2
    generalize asm t = p at *
    obtain ⟨zs, n⟩ := p
    simp only at *
    by_cases hn : n = 0
    · subst hn
      clear hbd
      go_wp2_with (go_at_call 13; fail)
      refine (same_any _ _ zs _ WL ZL (by omega)).mono ?_
      rintro e w12 ⟨rfl, hb12⟩
      replace ZL := ZL.below hb12
      replace hb := hb.trans (hb12.mono hb.size)
      clear hb12 WL
      have hpz := fun w L => ProgD.spec_any (.slice sz zs.length cz) zs w L (by omega)
      rw [hok2] at hpz
      go_wp2_with (go_at_call 12; fail)
      refine (hpz _ ZL).mono ?_
      rintro e w13 ⟨rfl, hb13⟩
      replace hb := hb.trans (hb13.mono hb.size)
      clear hb13
      go_wp2
      go_ret
      exact ⟨rfl, hb⟩
    · have hze := hbd hn
      subst hze
      have hn1 : ((n : Int) == 0) = false := by simp; omega
      have hn2 : ((n : Int) != 0) = true := by simp; omega
      clear hbd hn
      go_wp2
      go_ret
      exact ⟨rfl, hb⟩


end Go.Proofs.YteamkpjlcflkcaaDoor.Progs
