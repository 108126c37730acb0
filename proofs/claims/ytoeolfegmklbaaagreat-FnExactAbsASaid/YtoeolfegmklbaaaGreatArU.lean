/- Chapter 12, spec's side: a process put among those that rise. Condition: none. -/
import Derived.Test.YtoeolfegmklbaaaGreatArT
namespace Go.Proofs.YtoeolfegmklbaaaGreat.ArU
open Go.RowKit Go.Deep Num RowC TyA TyM Bel InsC ArS TyB TyR TyF TyT ArT
set_option maxRecDepth 100000
set_option linter.unusedVariables false
set_option linter.unusedSimpArgs false

/-- The first place whose process has a greater Pid. -/
def insAt (l : List MProc) (p : MProc) : Nat := l.findIdx (fun q => decide (p.fPid < q.fPid))
def insP (l : List MProc) (p : MProc) : List MProc := l.take (insAt l p) ++ p :: l.drop (insAt l p)
/-- What is there behind k of them. -/
def outK (l : List MProc) (p : MProc) (k : Nat) : List MProc := if insAt l p < k then l.take (insAt l p) ++ p :: (l.take k).drop (insAt l p) else l.take k
theorem ins_le (l : List MProc) (p : MProc) : insAt l p ≤ l.length := List.findIdx_le_length
section
variable {l : List MProc} {p q : MProc} {k : Nat}
theorem ins_hit (h : ¬ insAt l p < k) (hq : l[k]? = some q) (hg : p.fPid < q.fPid) : insAt l p = k := by
 obtain ⟨hk, rfl⟩ := List.getElem?_eq_some_iff.1 hq
 unfold insAt at *
 rcases Nat.lt_or_ge k (l.findIdx (fun q => decide (p.fPid < q.fPid))) with h1 | h1
 ·have := List.not_of_lt_findIdx h1
  simp at this
  omega
 ·omega
theorem ins_miss (h : ¬ insAt l p < k) (hq : l[k]? = some q) (hg : ¬ p.fPid < q.fPid) : ¬ insAt l p < k + 1 := by
 obtain ⟨hk, rfl⟩ := List.getElem?_eq_some_iff.1 hq
 intro h1
 have h2 : insAt l p = k := by omega
 unfold insAt at h2
 have h3 : l.findIdx (fun q => decide (p.fPid < q.fPid)) < l.length := by rw [h2]; exact hk
 have h4 := List.findIdx_getElem (w := h3)
 simp only [h2, decide_eq_true_eq] at h4
 exact hg h4
theorem take_next (hq : l[k]? = some q) : l.take (k + 1) = l.take k ++ [q] := by
 obtain ⟨h1, rfl⟩ := List.getElem?_eq_some_iff.1 hq
 exact List.take_succ_eq_append_getElem h1
theorem out_put (h : insAt l p < k) (hq : l[k]? = some q) : outK l p (k + 1) = outK l p k ++ [q] := by
 have hk := (List.getElem?_eq_some_iff.1 hq).1
 unfold outK
 rw [if_pos (by omega), if_pos h, take_next hq, List.drop_append_of_le_length (by simp; omega)]
 simp
theorem out_both (h : insAt l p = k) (hq : l[k]? = some q) : outK l p (k + 1) = (outK l p k ++ [p]) ++ [q] := by
 have hk := (List.getElem?_eq_some_iff.1 hq).1
 unfold outK
 rw [if_pos (by omega), if_neg (by omega), h, take_next hq, List.drop_append_of_le_length (by simp; omega)]
 simp
theorem out_not (h : ¬ insAt l p < k + 1) (hq : l[k]? = some q) : outK l p (k + 1) = outK l p k ++ [q] := by
 unfold outK
 rw [if_neg h, if_neg (by omega), take_next hq]
theorem out_zero : outK l p 0 = [] := by unfold outK; simp
theorem out_all (h : insAt l p < l.length) : outK l p l.length = insP l p := by unfold outK insP; rw [if_pos h, List.take_length]
theorem out_end (h : ¬ insAt l p < l.length) : outK l p l.length ++ [p] = insP l p := by
 have h1 := ins_le l p
 unfold outK insP
 rw [if_neg h, show insAt l p = l.length by omega]
 simp
theorem out_len (hk : k ≤ l.length) : (outK l p k).length ≤ k + 1 := by
 unfold outK
 split
 ·simp; omega
 ·simp; omega
theorem insP_length : (insP l p).length = l.length + 1 := by
 have := ins_le l p
 unfold insP
 simp
 omega
end
/-- Where a block of what is put together comes from. -/
def Src (bss : List (List Nat)) (b : List Nat) (n k : Nat) (put : Prop) (y : Nat) : Prop := (∃ i bi, i < k ∧ bss[i]? = some bi ∧ y ∈ bi) ∨ (put ∧ y ∈ b) ∨ n ≤ y
set_option maxHeartbeats 8000000 in
theorem l12Sort_any (v : Value) (l : List MProc) (bs : List Nat) (p : MProc) (cs : List Value) (b : List Nat) (w : World) (hl : l.length ≤ 1000) (hn : bs.Nodup) (hbn : b.Nodup) (hdis : ∀ y ∈ b, y ∉ bs) (h : OProcS w v l bs) (hp : PProc w cs p b) :
  Calls Tryz.prog 120 #[v, .agg cs.toArray] w fun e w' => ∃ u d, e = .returned u ∧ OProcS w' u (insP l p) d ∧ d.Nodup ∧ (∀ y ∈ d, y ∈ bs ∨ y ∈ b ∨ w.heap.size ≤ y) ∧ Below w.heap.size w w' := by
 have hpb := good_Proc.lt hp
 have hrb := gv_ProcS.lt h
 obtain ⟨x0, y0, rfl⟩ := gv_ProcS.slice h
 have HP0 := hd hp
 obtain ⟨v1, v2, v3, b1, b2, b3, rfl, h1, h2, h3, rfl⟩ := hp
 obtain ⟨x1, y1, rfl⟩ := gv_IntS.slice h1
 obtain ⟨x2, y2, rfl⟩ := gv_IntS.slice h2
 obtain ⟨x3, y3, rfl⟩ := gv_IntS.slice h3
 obtain ⟨W, hW, hbb, hT⟩ := boxN w [.int .i64 p.fPid, .int .i64 p.fParent, .int .i64 p.fState, .int .i64 p.fProg, .int .i64 p.fCpu.fPc, .slice x1 p.fCpu.fRegs.length y1, .slice x2 p.fMem.length y2, .slice x3 p.fFds.length y3, .int .i64 p.fUntil, .int .i64 p.fCode] 177
 replace hW := hd hW
 have a0 := cellB (hT.a 0 _ rfl)
 have a1 := cellB (hT.a 1 _ rfl)
 have a2 := cellB (hT.a 2 _ rfl)
 have a3 := cellB (hT.a 3 _ rfl)
 have a4 := cellB (hT.a 4 _ rfl)
 have a5 := cellB (hT.a 5 _ rfl)
 have a6 := cellB (hT.a 6 _ rfl)
 have a7 := cellB (hT.a 7 _ rfl)
 have a8 := cellB (hT.a 8 _ rfl)
 have a9 := cellB (hT.a 9 _ rfl)
 have HBB := hd hbb
 obtain ⟨x0_, hx0⟩ : ∃ x0 : Bel W, x0.w = W := ⟨⟨W, Below.refl _ _⟩, rfl⟩
 replace hx0 := hd hx0
 have HPP := hd (fun X (hX : Below W.heap.size W X) => good_Proc.keep HP0.out (Keep.of_below [] (hbb.trans (hX.mono hbb.size))) (by simp))
 have hRow := gv_ProcS.below h hbb
 have hsz := hbb.size
 have hWs : W.heap.size = w.heap.size + 1 := by rw [← hW.out]; simp
 obtain ⟨xs, bss, ho1, ho2, hbe, ho4⟩ := hRow
 obtain ⟨nn1, nn2, nn3⟩ := List.nodup_append.1 (hbe ▸ hn)
 have HBN := hd (show ∀ (k : Nat) (bk : List Nat), bss[k]? = some bk → bk.Nodup from fun k bk hk => (List.pairwise_flatten.1 nn2).1 bk (List.mem_of_getElem? hk))
 have HBD := hd (show ∀ (i k : Nat) (bi bk : List Nat), i ≠ k → bss[i]? = some bi → bss[k]? = some bk → ∀ y ∈ bk, y ∉ bi from fun i k bi bk hik h1 h2 y hy1 hy2 => by
  have hpw := (List.pairwise_flatten.1 nn2).2
  obtain ⟨hi, rfl⟩ := List.getElem?_eq_some_iff.1 h1
  obtain ⟨hk, rfl⟩ := List.getElem?_eq_some_iff.1 h2
  rcases Nat.lt_or_gt_of_ne hik with h | h
  ·exact (List.pairwise_iff_getElem.1 hpw) i k hi hk h y hy2 y hy1 rfl
  ·exact (List.pairwise_iff_getElem.1 hpw) k i hk hi h y hy1 y hy2 rfl)
 have HBB2 := hd (show ∀ (k : Nat) (bk : List Nat), bss[k]? = some bk → ∀ y ∈ bk, y ∈ bs from fun k bk hk y hy => by rw [hbe]; exact List.mem_append_right _ (mem_flat hk hy))
 have HBL := hd (show ∀ y ∈ bs, y < w.heap.size from hrb)
 obtain ⟨BP, hBP⟩ : ∃ BP, b1 ++ (b2 ++ b3) = BP := ⟨_, rfl⟩
 rw [hBP] at hpb hdis hbn ⊢
 replace HPP := HPP.out
 rw [hBP] at HPP
 replace HPP := hd HPP
 replace HP0 := HP0.out
 rw [hBP] at HP0
 replace HP0 := hd HP0
 have HPL := hd (show ∀ y ∈ BP, y < w.heap.size from hpb)
 have HPD := hd (show ∀ y ∈ BP, y ∉ bs from hdis)
 have HPN := hd hbn
 have HEL := hd (show ∀ (k : Nat) (q : MProc), l[k]? = some q → ∃ bk, bss[k]? = some bk ∧ PProc W ((xs.drop (k * 10)).take 10) q bk from fun k q hq => by
  have hk : k < bss.length := by rw [ho2]; exact (List.getElem?_eq_some_iff.1 hq).1
  exact ⟨_, List.getElem?_eq_getElem hk, ho4 k q _ hq (List.getElem?_eq_getElem hk)⟩)
 have HOW := hd ho1
 have HR := hd (show OProcS W (.slice x0 l.length y0) l bs from ⟨xs, bss, ho1, ho2, hbe, ho4⟩)
 have HLE := hd (ins_le l p)
 replace HPP := HPP.out
 unfold MProc.cells cI at HPP
 replace HPP := hd HPP
 unfold MProc.cells cI
 clear h h1 h2 h3 hT hbb ho1 ho2 hbe ho4 nn1 nn2 nn3 hdis hn hbn hpb hrb
 go_enter Tryz.func120, Tryz.ntmps120
 go_wp2_with fail
 rw [hW.out]
 have hrow0 : OProcS (W.alloc (.cells #[] 177)) (.slice (some ⟨W.heap.size, 0, none⟩) 0 0) [] [W.heap.size] := ⟨[], [], World.ownsRow_lit W #[] 0 (Nat.zero_le _) (by unfold maxLen; omega) rfl, rfl, by simp [blk_some], fun i x b hx => by simp at hx⟩
 go_loopw [5, 6, 7] (fun v pv i wr => ∃ (k : Nat) (a : Option Addr) (c : Nat), k ≤ l.length ∧ i = .int .i64 k ∧ pv = .bool (decide (insAt l p < k)) ∧ v = .slice a (outK l p k).length c ∧ Hid (∃ d, OProcS wr (.slice a (outK l p k).length c) (outK l p k) d ∧ d.Nodup ∧ (∀ y ∈ d, Src bss BP w.heap.size k (insAt l p < k) y) ∧ ∀ y ∈ blk (.slice a (outK l p k).length c), W.heap.size ≤ y) ∧ Below W.heap.size W wr) (fun _ _ i _ => l.length - (intOf i).toNat)
 case atStart => exact ⟨0, some ⟨w.heap.size + 1, 0, none⟩, 0, Nat.zero_le _, rfl, by simp, by simp [out_zero], hd ⟨[w.heap.size + 1], by rw [out_zero]; rw [hWs] at hrow0; exact hrow0, by simp, fun y hy => by simp at hy; exact .inr (.inr (by omega)), fun y hy => by rw [blk_some] at hy; simp at hy; omega⟩, (Below.refl _ _).alloc (Nat.le_refl _) _⟩
 case round =>
  obtain ⟨k, a, c, hk, rfl, rfl, rfl, HO, hbel⟩ := hrel
  have hol := out_len (p := p) hk
  have hrs := hbel.size
  obtain ⟨d, hrow, hdn, hds, hdo⟩ := HO.out
  clear HO
  by_cases hlt : k < l.length
  ·obtain ⟨q, hq⟩ : ∃ q, l[k]? = some q := ⟨l[k], by simp [hlt]⟩
   obtain ⟨bk, hbk, hPk⟩ := HEL.out k q hq
   have HPK := hd (fun X (hX : Below wr.heap.size wr X) => good_Proc.keep hPk (Keep.of_below [] (hbel.trans (hX.mono hrs))) (by simp))
   have hbkn := HBN.out k bk hbk
   have hbkl : ∀ y ∈ bk, y < w.heap.size := fun y hy => HBL.out y (HBB2.out k bk hbk y hy)
   obtain ⟨g0, rfl⟩ : ∃ g0, x0 = some ⟨g0, 0, none⟩ := by
    rcases HR.out.cases with ⟨hh, h0, _⟩ | ⟨gg, cap, hh, _⟩
    ·rw [h0] at hlt; simp at hlt
    ·simp at hh; exact ⟨gg, hh.1⟩
   have hcell := hd (fun j u (hj : ((xs.drop (k * 10)).take 10)[j]? = some u) => show W.cell? ⟨g0, k * 10 + j, none⟩ = some u by
    have hj10 : j < 10 := by have := (List.getElem?_eq_some_iff.1 hj).1; simp at this; omega
    have hlen := HOW.out.1
    rw [HOW.out.cellAt (k * 10 + j) (by omega), ← hj, List.getElem?_take_of_lt hj10, List.getElem?_drop])
   obtain ⟨va, vb, vc, ba, bb, bc, hcs, ka, kb, kc, hbks⟩ := hPk
   obtain ⟨xa1, ya1, rfl⟩ := gv_IntS.slice ka
   obtain ⟨xa2, ya2, rfl⟩ := gv_IntS.slice kb
   obtain ⟨xa3, ya3, rfl⟩ := gv_IntS.slice kc
   have HPK2 := HPK
   replace HPK := HPK.out
   rw [hcs] at HPK
   replace hcell := hcell.out
   rw [hcs] at hcell
   have E0 := cellB (hcell 0 _ rfl)
   have E1 := cellB (hcell 1 _ rfl)
   have E2 := cellB (hcell 2 _ rfl)
   have E3 := cellB (hcell 3 _ rfl)
   have E4 := cellB (hcell 4 _ rfl)
   have E5 := cellB (hcell 5 _ rfl)
   have E6 := cellB (hcell 6 _ rfl)
   have E7 := cellB (hcell 7 _ rfl)
   have E8 := cellB (hcell 8 _ rfl)
   have E9 := cellB (hcell 9 _ rfl)
   rw [Nat.add_zero] at E0
   unfold cI at E0 E1 E2 E3 E4 E8 E9
   have e0 := cellV hbel E0
   have e1 := cellV hbel E1
   have e2 := cellV hbel E2
   have e3 := cellV hbel E3
   have e4 := cellV hbel E4
   have e5 := cellV hbel E5
   have e6 := cellV hbel E6
   have e7 := cellV hbel E7
   have e8 := cellV hbel E8
   have e9 := cellV hbel E9
   have f0 := cellV hbel a0
   have f1 := cellV hbel a1
   have f2 := cellV hbel a2
   have f3 := cellV hbel a3
   have f4 := cellV hbel a4
   have f5 := cellV hbel a5
   have f6 := cellV hbel a6
   have f7 := cellV hbel a7
   have f8 := cellV hbel a8
   have f9 := cellV hbel a9
   unfold MProc.cells cI at HPK
   have hk0 : (0 : Int) ≤ (k : Int) := by omega
   have hk1 : (k : Int) < (l.length : Int) := by omega
   replace HPK := hd HPK
   have HNI := hd (show ∀ y ∈ bk, y ∉ d from fun y hy hyd => by
    rcases hds y hyd with ⟨i, bi, hik, hbi, hyi⟩ | ⟨_, hyb⟩ | hge
    ·exact HBD.out i k bi bk (by omega) hbi hbk y hy hyi
    ·exact HPD.out y hyb (HBB2.out k bk hbk y hy)
    ·have := hbkl y hy; omega)
   clear hcell ka kb kc hcs hbks HPK2
   by_cases hput : insAt l p < k
   ·have HD : Hid (decide (insAt l p < k + 1) = true) := hd (decide_eq_true (by omega))
    have HST := out_put hput hq
    rw [decide_eq_true hput]
    go_wp2_with fail
    refine region_bel (by kernel_rfl) (by kernel_rfl) (fun hne => ?_)
    repeat (go_big_quiet_step (fail))
    refine wpQuiet_nil ?_
    rintro _ ⟨y_, rfl⟩
    go_wp2_with (at_builtin; refine wpList_append_elem (P := PProc) good_Proc Tryz.underlying35 info_ProcS rfl (by decide) (by decide) rfl _ _ rfl (.slice a (outK l p k).length c) (outK l p k) d rfl (gv_ProcS.keep hrow (Keep.of_below [] (balloc y_.ok _)) (by simp)) hdn y_.w.heap.size 0 1 [.int .i64 q.fPid, .int .i64 q.fParent, .int .i64 q.fState, .int .i64 q.fProg, .int .i64 q.fCpu.fPc, .slice xa1 q.fCpu.fRegs.length ya1, .slice xa2 q.fMem.length ya2, .slice xa3 q.fFds.length ya3, .int .i64 q.fUntil, .int .i64 q.fCode] q bk rfl (fun j u hj => by rw [Nat.zero_add]; exact cell_box y_.w [.int .i64 q.fPid, .int .i64 q.fParent, .int .i64 q.fState, .int .i64 q.fProg, .int .i64 q.fCpu.fPc, .slice xa1 q.fCpu.fRegs.length ya1, .slice xa2 q.fMem.length ya2, .slice xa3 q.fFds.length ya3, .int .i64 q.fUntil, .int .i64 q.fCode] _ _ rfl j u hj) rfl (by simp [Value.oneCell']) (HPK.out _ (balloc y_.ok _)) hbkn (HNI.out) (by omega) ?_)
    intro v5 w5 d5 hr5 hn5 hs5 hk5 ho5
    have hB5 : Below W.heap.size W w5 := (hbel.trans ((balloc y_.ok _).mono hrs)).trans (hk5.below (fun y hy => hdo y hy) (hbel.trans ((balloc y_.ok _).mono hrs)).size)
    have HO5 := hd (show ∃ d, OProcS w5 v5 (outK l p (k + 1)) d ∧ d.Nodup ∧ (∀ y ∈ d, Src bss BP w.heap.size (k + 1) (insAt l p < k + 1) y) ∧ ∀ y ∈ blk v5, W.heap.size ≤ y from ⟨d5, by rw [HST]; exact hr5, hn5, fun y hy => by
     rcases hs5 y hy with h1 | h1 | h1
     ·rcases hds y h1 with ⟨i, bi, hik, hbi, hyi⟩ | ⟨hp1, hyb⟩ | hge
      ·exact .inl ⟨i, bi, by omega, hbi, hyi⟩
      ·exact .inr (.inl ⟨by omega, hyb⟩)
      ·exact .inr (.inr hge)
     ·exact .inl ⟨k, bk, by omega, hbk, h1⟩
     ·refine .inr (.inr ?_); have := y_.ok.size; first | omega | (simp at h1; omega), fun y hy => by
     rcases ho5 y hy with h1 | h1
     ·exact hdo y h1
     ·have := y_.ok.size; first | omega | (simp at h1; omega)⟩)
    have hle5 := congrArg List.length (show outK l p (k + 1) = _ from HST)
    obtain ⟨a5, c5, rfl⟩ := gv_ProcS.slice hr5
    rw [← hle5] at HO5 ⊢
    clear hr5 hn5 hs5 hk5 ho5 hrow
    go_wp2
    go_roundw
    case rel => exact ⟨k + 1, a5, c5, by omega, by go_num, by first | rfl | simp [HD.out], rfl, HO5, hB5⟩
    case measure => simp [intOf]; omega
   ·by_cases hgt : p.fPid < q.fPid
    ·have hat := ins_hit hput hq hgt
     have HD : Hid (decide (insAt l p < k + 1) = true) := hd (decide_eq_true (by omega))
     have HST := out_both hat hq
     have hgt' : decide (p.fPid < q.fPid) = true := decide_eq_true hgt
     rw [decide_eq_false hput]
     have HNP := hd (show ∀ y ∈ BP, y ∉ d from fun y hy hyd => by
      rcases hds y hyd with ⟨i, bi, hik, hbi, hyi⟩ | ⟨hp1, hyb⟩ | hge
      ·exact HPD.out y hy (HBB2.out i bi hbi y hyi)
      ·exact absurd hp1 hput
      ·have := HPL.out y hy; omega)
     go_wp2_with fail
     refine region_bel (by kernel_rfl) (by kernel_rfl) (fun hne => ?_)
     repeat (go_big_quiet_step (fail))
     refine wpQuiet_nil ?_
     rintro _ ⟨y_, rfl⟩
     go_wp2_with (at_builtin; refine wpList_append_elem (P := PProc) good_Proc Tryz.underlying35 info_ProcS rfl (by decide) (by decide) rfl _ _ rfl (.slice a (outK l p k).length c) (outK l p k) d rfl (gv_ProcS.keep hrow (Keep.of_below [] (balloc y_.ok _)) (by simp)) hdn y_.w.heap.size 0 1 [.int .i64 p.fPid, .int .i64 p.fParent, .int .i64 p.fState, .int .i64 p.fProg, .int .i64 p.fCpu.fPc, .slice x1 p.fCpu.fRegs.length y1, .slice x2 p.fMem.length y2, .slice x3 p.fFds.length y3, .int .i64 p.fUntil, .int .i64 p.fCode] p BP rfl (fun j u hj => by rw [Nat.zero_add]; exact cell_box y_.w [.int .i64 p.fPid, .int .i64 p.fParent, .int .i64 p.fState, .int .i64 p.fProg, .int .i64 p.fCpu.fPc, .slice x1 p.fCpu.fRegs.length y1, .slice x2 p.fMem.length y2, .slice x3 p.fFds.length y3, .int .i64 p.fUntil, .int .i64 p.fCode] _ _ rfl j u hj) rfl (by simp [Value.oneCell']) (HPP.out _ (hbel.trans ((balloc y_.ok _).mono hrs))) HPN.out (HNP.out) (by omega) ?_)
     intro v5 w5 d5 hr5 hn5 hs5 hk5 ho5
     have hB5 : Below W.heap.size W w5 := (hbel.trans ((balloc y_.ok _).mono hrs)).trans (hk5.below (fun y hy => hdo y hy) (hbel.trans ((balloc y_.ok _).mono hrs)).size)
     have hdo5 : ∀ y ∈ blk v5, W.heap.size ≤ y := fun y hy => by
      rcases ho5 y hy with h1 | h1
      ·exact hdo y h1
      ·have := y_.ok.size; first | omega | (simp at h1; omega)
     obtain ⟨L2, hL2⟩ : ∃ L2, outK l p k ++ [p] = L2 := ⟨_, rfl⟩
     have hL2n : L2.length ≤ 2000 := by rw [← hL2]; simp; omega
     rw [hL2] at hr5 HST
     obtain ⟨a5, c5, rfl⟩ := gv_ProcS.slice hr5
     have hs5z := hB5.size
     have HNI5 := hd (show ∀ y ∈ bk, y ∉ d5 from fun y hy hyd => by
      rcases hs5 y hyd with h1 | h1 | h1
      ·exact HNI.out y hy h1
      ·exact HPD.out y h1 (HBB2.out k bk hbk y hy)
      ·have := hbkl y hy; have := y_.ok.size; first | omega | (simp at h1; omega))
     have hPK5 : PProc (w5.alloc (.cells #[.int .i64 q.fPid, .int .i64 q.fParent, .int .i64 q.fState, .int .i64 q.fProg, .int .i64 q.fCpu.fPc, .slice xa1 q.fCpu.fRegs.length ya1, .slice xa2 q.fMem.length ya2, .slice xa3 q.fFds.length ya3, .int .i64 q.fUntil, .int .i64 q.fCode] 177)) [.int .i64 q.fPid, .int .i64 q.fParent, .int .i64 q.fState, .int .i64 q.fProg, .int .i64 q.fCpu.fPc, .slice xa1 q.fCpu.fRegs.length ya1, .slice xa2 q.fMem.length ya2, .slice xa3 q.fFds.length ya3, .int .i64 q.fUntil, .int .i64 q.fCode] q bk := good_Proc.keep (HPK.out wr (Below.refl _ _)) ((Keep.of_below [] (balloc y_.ok (.cells #[.int .i64 p.fPid, .int .i64 p.fParent, .int .i64 p.fState, .int .i64 p.fProg, .int .i64 p.fCpu.fPc, .slice x1 p.fCpu.fRegs.length y1, .slice x2 p.fMem.length y2, .slice x3 p.fFds.length y3, .int .i64 p.fUntil, .int .i64 p.fCode] 177))).mono (bs' := blk (.slice a (outK l p k).length c)) (by simp) |>.trans hk5 |>.trans ((Keep.of_below [] ((Below.refl _ w5).alloc (Nat.le_refl _) _)).mono (by simp))) (fun y hy hy2 => by have := hdo y hy2; have := hbkl y hy; omega)
     have g0 := E0 ⟨w5, hB5⟩
     have g1 := E1 ⟨w5, hB5⟩
     have g2 := E2 ⟨w5, hB5⟩
     have g3 := E3 ⟨w5, hB5⟩
     have g4 := E4 ⟨w5, hB5⟩
     have g5 := E5 ⟨w5, hB5⟩
     have g6 := E6 ⟨w5, hB5⟩
     have g7 := E7 ⟨w5, hB5⟩
     have g8 := E8 ⟨w5, hB5⟩
     have g9 := E9 ⟨w5, hB5⟩
     simp only at g0 g1 g2 g3 g4 g5 g6 g7 g8 g9
     go_wp2_with (at_builtin; refine wpList_append_elem (P := PProc) good_Proc Tryz.underlying35 info_ProcS rfl (by decide) (by decide) rfl _ _ rfl (.slice a5 (L2).length c5) (L2) d5 rfl (gv_ProcS.keep hr5 (Keep.of_below [] ((Below.refl _ w5).alloc (Nat.le_refl _) _)) (by simp)) hn5 w5.heap.size 0 1 [.int .i64 q.fPid, .int .i64 q.fParent, .int .i64 q.fState, .int .i64 q.fProg, .int .i64 q.fCpu.fPc, .slice xa1 q.fCpu.fRegs.length ya1, .slice xa2 q.fMem.length ya2, .slice xa3 q.fFds.length ya3, .int .i64 q.fUntil, .int .i64 q.fCode] q bk rfl (fun j u hj => by rw [Nat.zero_add]; exact cell_box w5 [.int .i64 q.fPid, .int .i64 q.fParent, .int .i64 q.fState, .int .i64 q.fProg, .int .i64 q.fCpu.fPc, .slice xa1 q.fCpu.fRegs.length ya1, .slice xa2 q.fMem.length ya2, .slice xa3 q.fFds.length ya3, .int .i64 q.fUntil, .int .i64 q.fCode] _ _ rfl j u hj) rfl (by simp [Value.oneCell']) hPK5 hbkn (HNI5.out) (by omega) ?_)
     intro v6 w6 d6 hr6 hn6 hs6 hk6 ho6
     have hB6 : Below W.heap.size W w6 := (balloc hB5 _).trans (hk6.below (fun y hy => hdo5 y hy) (balloc hB5 _).size)
     have HO6 := hd (show ∃ d, OProcS w6 v6 (outK l p (k + 1)) d ∧ d.Nodup ∧ (∀ y ∈ d, Src bss BP w.heap.size (k + 1) (insAt l p < k + 1) y) ∧ ∀ y ∈ blk v6, W.heap.size ≤ y from ⟨d6, by rw [HST]; exact hr6, hn6, fun y hy => by
      rcases hs6 y hy with h1 | h1 | h1
      ·rcases hs5 y h1 with h2 | h2 | h2
       ·rcases hds y h2 with ⟨i, bi, hik, hbi, hyi⟩ | ⟨hp1, hyb⟩ | hge
        ·exact .inl ⟨i, bi, by omega, hbi, hyi⟩
        ·exact absurd hp1 hput
        ·exact .inr (.inr hge)
       ·exact .inr (.inl ⟨by omega, h2⟩)
       ·refine .inr (.inr ?_); have := y_.ok.size; first | omega | (simp at h2; omega)
      ·exact .inl ⟨k, bk, by omega, hbk, h1⟩
      ·refine .inr (.inr ?_); have := hB5.size; first | omega | (simp at h1; omega), fun y hy => by
      rcases ho6 y hy with h1 | h1
      ·exact hdo5 y h1
      ·have := hB5.size; first | omega | (simp at h1; omega)⟩)
     have hle6 := congrArg List.length (show outK l p (k + 1) = _ from HST)
     obtain ⟨a6, c6, rfl⟩ := gv_ProcS.slice hr6
     rw [← hle6] at HO6 ⊢
     clear hr5 hn5 hs5 hk5 ho5 hrow hr6 hn6 hs6 hk6 ho6 hPK5
     go_wp2
     go_roundw
     case rel => exact ⟨k + 1, a6, c6, by omega, by go_num, by first | rfl | simp [HD.out], rfl, HO6, hB6⟩
     case measure => simp [intOf]; omega
    ·have hni := ins_miss hput hq hgt
     have HD : Hid (decide (insAt l p < k + 1) = false) := hd (decide_eq_false hni)
     have HST := out_not hni hq
     have hgt' : decide (p.fPid < q.fPid) = false := decide_eq_false hgt
     rw [decide_eq_false hput]
     go_wp2_with fail
     refine region_bel (by kernel_rfl) (by kernel_rfl) (fun hne => ?_)
     repeat (go_big_quiet_step (fail))
     refine wpQuiet_nil ?_
     rintro _ ⟨y_, rfl⟩
     go_wp2_with (at_builtin; refine wpList_append_elem (P := PProc) good_Proc Tryz.underlying35 info_ProcS rfl (by decide) (by decide) rfl _ _ rfl (.slice a (outK l p k).length c) (outK l p k) d rfl (gv_ProcS.keep hrow (Keep.of_below [] (balloc y_.ok _)) (by simp)) hdn y_.w.heap.size 0 1 [.int .i64 q.fPid, .int .i64 q.fParent, .int .i64 q.fState, .int .i64 q.fProg, .int .i64 q.fCpu.fPc, .slice xa1 q.fCpu.fRegs.length ya1, .slice xa2 q.fMem.length ya2, .slice xa3 q.fFds.length ya3, .int .i64 q.fUntil, .int .i64 q.fCode] q bk rfl (fun j u hj => by rw [Nat.zero_add]; exact cell_box y_.w [.int .i64 q.fPid, .int .i64 q.fParent, .int .i64 q.fState, .int .i64 q.fProg, .int .i64 q.fCpu.fPc, .slice xa1 q.fCpu.fRegs.length ya1, .slice xa2 q.fMem.length ya2, .slice xa3 q.fFds.length ya3, .int .i64 q.fUntil, .int .i64 q.fCode] _ _ rfl j u hj) rfl (by simp [Value.oneCell']) (HPK.out _ (balloc y_.ok _)) hbkn (HNI.out) (by omega) ?_)
     intro v5 w5 d5 hr5 hn5 hs5 hk5 ho5
     have hB5 : Below W.heap.size W w5 := (hbel.trans ((balloc y_.ok _).mono hrs)).trans (hk5.below (fun y hy => hdo y hy) (hbel.trans ((balloc y_.ok _).mono hrs)).size)
     have HO5 := hd (show ∃ d, OProcS w5 v5 (outK l p (k + 1)) d ∧ d.Nodup ∧ (∀ y ∈ d, Src bss BP w.heap.size (k + 1) (insAt l p < k + 1) y) ∧ ∀ y ∈ blk v5, W.heap.size ≤ y from ⟨d5, by rw [HST]; exact hr5, hn5, fun y hy => by
      rcases hs5 y hy with h1 | h1 | h1
      ·rcases hds y h1 with ⟨i, bi, hik, hbi, hyi⟩ | ⟨hp1, hyb⟩ | hge
       ·exact .inl ⟨i, bi, by omega, hbi, hyi⟩
       ·exact absurd hp1 hput
       ·exact .inr (.inr hge)
      ·exact .inl ⟨k, bk, by omega, hbk, h1⟩
      ·refine .inr (.inr ?_); have := y_.ok.size; first | omega | (simp at h1; omega), fun y hy => by
      rcases ho5 y hy with h1 | h1
      ·exact hdo y h1
      ·have := y_.ok.size; first | omega | (simp at h1; omega)⟩)
     have hle5 := congrArg List.length (show outK l p (k + 1) = _ from HST)
     obtain ⟨a5, c5, rfl⟩ := gv_ProcS.slice hr5
     rw [← hle5] at HO5 ⊢
     clear hr5 hn5 hs5 hk5 ho5 hrow
     go_wp2
     go_roundw
     case rel => exact ⟨k + 1, a5, c5, by omega, by go_num, by first | rfl | simp [HD.out], rfl, HO5, hB5⟩
     case measure => simp [intOf]; omega
  ·obtain rfl : k = l.length := by omega
   by_cases hput : insAt l p < l.length
   ·rw [decide_eq_true hput]
    have HE := out_all hput
    go_wp2
    go_ret
    exact ⟨_, d, rfl, by rw [← HE]; exact hrow, hdn, fun y hy => by
     rcases hds y hy with ⟨i, bi, hik, hbi, hyi⟩ | ⟨_, hyb⟩ | hge
     ·exact .inl (HBB2.out i bi hbi y hyi)
     ·exact .inr (.inl hyb)
     ·exact .inr (.inr hge), HBB.out.trans (hbel.mono HBB.out.size)⟩
   ·rw [decide_eq_false hput]
    have HE := out_end hput
    have HNP := hd (show ∀ y ∈ BP, y ∉ d from fun y hy hyd => by
     rcases hds y hyd with ⟨i, bi, hik, hbi, hyi⟩ | ⟨hp1, hyb⟩ | hge
     ·exact HPD.out y hy (HBB2.out i bi hbi y hyi)
     ·exact absurd hp1 hput
     ·have := HPL.out y hy; omega)
    have f0 := cellV hbel a0 ⟨wr, Below.refl _ _⟩
    have f1 := cellV hbel a1 ⟨wr, Below.refl _ _⟩
    have f2 := cellV hbel a2 ⟨wr, Below.refl _ _⟩
    have f3 := cellV hbel a3 ⟨wr, Below.refl _ _⟩
    have f4 := cellV hbel a4 ⟨wr, Below.refl _ _⟩
    have f5 := cellV hbel a5 ⟨wr, Below.refl _ _⟩
    have f6 := cellV hbel a6 ⟨wr, Below.refl _ _⟩
    have f7 := cellV hbel a7 ⟨wr, Below.refl _ _⟩
    have f8 := cellV hbel a8 ⟨wr, Below.refl _ _⟩
    have f9 := cellV hbel a9 ⟨wr, Below.refl _ _⟩
    simp only at f0 f1 f2 f3 f4 f5 f6 f7 f8 f9
    go_wp2_with (at_builtin; refine wpList_append_elem (P := PProc) good_Proc Tryz.underlying35 info_ProcS rfl (by decide) (by decide) rfl _ _ rfl (.slice a (outK l p l.length).length c) (outK l p l.length) d rfl (gv_ProcS.keep hrow (Keep.of_below [] ((Below.refl _ wr).alloc (Nat.le_refl _) _)) (by simp)) hdn wr.heap.size 0 1 [.int .i64 p.fPid, .int .i64 p.fParent, .int .i64 p.fState, .int .i64 p.fProg, .int .i64 p.fCpu.fPc, .slice x1 p.fCpu.fRegs.length y1, .slice x2 p.fMem.length y2, .slice x3 p.fFds.length y3, .int .i64 p.fUntil, .int .i64 p.fCode] p BP rfl (fun j u hj => by rw [Nat.zero_add]; exact cell_box wr [.int .i64 p.fPid, .int .i64 p.fParent, .int .i64 p.fState, .int .i64 p.fProg, .int .i64 p.fCpu.fPc, .slice x1 p.fCpu.fRegs.length y1, .slice x2 p.fMem.length y2, .slice x3 p.fFds.length y3, .int .i64 p.fUntil, .int .i64 p.fCode] _ _ rfl j u hj) rfl (by simp [Value.oneCell']) (HPP.out _ (balloc hbel _)) HPN.out (HNP.out) (by omega) ?_)
    intro v5 w5 d5 hr5 hn5 hs5 hk5 ho5
    have hB5 : Below W.heap.size W w5 := (balloc hbel _).trans (hk5.below (fun y hy => hdo y hy) (balloc hbel _).size)
    have HR5 := hd hr5
    have HS5 := hd hs5
    have HN5 := hd hn5
    obtain ⟨a5, c5, rfl⟩ := gv_ProcS.slice hr5
    clear hr5 hs5 hn5 hk5 ho5
    go_wp2
    go_ret
    exact ⟨_, d5, rfl, by first | exact HR5.out | (rw [HE]; exact HR5.out) | (have h9 := HR5.out; simp only [HE] at h9 ⊢; exact h9), HN5.out, fun y hy => by
     rcases HS5.out y hy with h1 | h1 | h1
     ·rcases hds y h1 with ⟨i, bi, hik, hbi, hyi⟩ | ⟨hp1, _⟩ | hge
      ·exact .inl (HBB2.out i bi hbi y hyi)
      ·exact absurd hp1 hput
      ·exact .inr (.inr hge)
     ·exact .inr (.inl h1)
     ·refine .inr (.inr ?_); first | omega | (simp at h1; omega), HBB.out.trans (hB5.mono HBB.out.size)⟩

end Go.Proofs.YtoeolfegmklbaaaGreat.ArU
