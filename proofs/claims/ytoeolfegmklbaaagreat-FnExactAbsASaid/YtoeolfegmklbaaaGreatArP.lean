/- Chapter 12, impl's side: what stands in those places that are used. Condition: none. -/
import Derived.Test.YtoeolfegmklbaaaGreatArO
namespace Go.Proofs.YtoeolfegmklbaaaGreat.ArP
open Go.RowKit Go.Deep Num RowC TyA TyM TyB TyR TyF TyT TyV Bel IntC InsC ArS ArT ArG ArH ArJ ArK ArL ArM ArU ArV ArY ArN ArO
set_option maxRecDepth 100000
set_option linter.unusedVariables false
set_option linter.unusedSimpArgs false

theorem one_at (w : World) (cs : List Value) (t : TypeId) (g : Nat) (hg : g = w.heap.size) : ∀ j u, cs[j]? = some u → (w.alloc (.cells cs.toArray t)).cell? ⟨g, 0 + j, none⟩ = some u := fun j u hu => by
 rw [Nat.zero_add]; exact cell_box w cs t g hg j u hu

theorem infoO_Proc : (Tryz.prog.info? 177).map (fun i => (i.zero, i.size, i.bytes)) = some (some (.agg #[.int .i64 0, .int .i64 0, .int .i64 0, .int .i64 0, .int .i64 0, .slice none 0 0, .slice none 0 0, .slice none 0 0, .int .i64 0, .int .i64 0]), 10, 128) := by kernel_rfl
set_option maxHeartbeats 8000000 in
theorem standing_ASlot (v : Value) (l : List MASlot) (bs : List Nat) (mk : Nat → MASlot → MProc) (A : Nat) (w : World) (hl : l.length ≤ 1000) (h : O_procSlot w v l.zipIdx bs)
  (hT : ∀ X, Below w.heap.size w X → ∀ (i : Nat) (o : MASlot) cs b, l[i]? = some o → o.fUsed = true → P_procSlot X cs (o, i) b → Calls Tryz.prog 137 #[.agg cs.toArray, .pointer (some ⟨A, 0, none⟩)] X fun e w' => ∃ cs' d, e = .returned (.agg cs'.toArray) ∧ PProc w' cs' (mk i o) d ∧ d.Nodup ∧ (∀ y ∈ d, X.heap.size ≤ y) ∧ Below X.heap.size X w') :
  Calls Tryz.prog 136 #[v, .func (.func 137) #[] #[.pointer (some ⟨A, 0, none⟩)]] w fun e w' => ∃ v' d, e = .returned v' ∧ OProcS w' v' (usedK MASlot.fUsed mk l l.length) d ∧ d.Nodup ∧ (∀ y ∈ d, w.heap.size ≤ y) ∧ Below w.heap.size w w' := by
 obtain ⟨a, c, hv⟩ := h.slice
 rw [List.length_zipIdx] at hv
 subst hv
 have HR := hd h
 have HTH := hd hT
 clear h hT
 go_enter Tryz.func136, Tryz.ntmps136
 go_wp2_with fail
 go_loopw [5, 10] (fun v i wr => ∃ k : Nat, k ≤ l.length ∧ i = .int .i64 k ∧ Hid (Gr 177 10 PProc w.heap.size wr v (usedK MASlot.fUsed mk l k)) ∧ Below w.heap.size w wr) (fun _ i _ => l.length - (intOf i).toNat)
 case atStart => exact ⟨0, Nat.zero_le _, rfl, hd (by simpa [usedK] using gr_start _ _ _ _ _), Below.refl _ _⟩
 case round =>
  obtain ⟨k, hk, rfl, hgr, hbel⟩ := hrel
  obtain ⟨bs5, hr5, hn5, hg5⟩ := hgr.out
  clear hgr
  have hlr5 := hr5.lt good_Proc
  have hul5 : (usedK MASlot.fUsed mk l k).length ≤ 2999999 := by have := used_len (us := MASlot.fUsed) (mk := mk) (l := l) (k := k); omega
  obtain ⟨a5, c5, hv5⟩ := hr5.slice
  obtain ⟨n5, hn5'⟩ : ∃ n5, (usedK MASlot.fUsed mk l k).length = n5 := ⟨_, rfl⟩
  rw [hn5'] at hv5
  subst hv5
  by_cases hlt : k < l.length
  ·obtain ⟨g0, rfl⟩ : ∃ g0, a = some ⟨g0, 0, none⟩ := by
    rcases HR.out.cases with ⟨hh, h0, _⟩ | ⟨g0, cap, hh, _⟩
    ·have := congrArg List.length h0; simp at this; rw [this] at hlt; simp at hlt
    ·simp at hh; exact ⟨g0, hh.1⟩
   obtain ⟨x, cs, b', hp, hP, ho⟩ := (HR.out.below (good_sl good_ASlot) hbel).out (i := k) (by simpa using hlt)
   rw [List.getElem?_zipIdx] at hp
   simp only [Nat.zero_add] at hp
   obtain ⟨o, hlo, rfl⟩ := Option.map_eq_some_iff.1 hp
   clear hp
   have hPp := hP
   obtain ⟨cs', rfl, v1, v2, v3, bb1, bb2, bb3, rfl, k1, k2, k3, hbb⟩ := hP
   dsimp only at k1 k2 k3
   obtain ⟨x1, y1, rfl⟩ := gv_IntS.slice k1
   obtain ⟨x2, y2, rfl⟩ := gv_IntS.slice k2
   obtain ⟨x3, y3, rfl⟩ := gv_IntS.slice k3
   clear k1 k2 k3 hbb
   have c0 := ho.cell 0 _ rfl
   have c1 := ho.cell 1 _ rfl
   have c2 := ho.cell 2 _ rfl
   have c3 := ho.cell 3 _ rfl
   have c4 := ho.cell 4 _ rfl
   have c5 := ho.cell 5 _ rfl
   have c6 := ho.cell 6 _ rfl
   have c7 := ho.cell 7 _ rfl
   have c8 := ho.cell 8 _ rfl
   have c9 := ho.cell 9 _ rfl
   have c10 := ho.cell 10 _ rfl
   have c11 := ho.cell 11 _ rfl
   have c12 := ho.cell 12 _ rfl
   rw [Nat.add_zero] at c0
   unfold cI at c0 c3 c4 c5 c6 c7 c8 c9
   unfold cB at c1 c2
   clear ho
   have HX := hd (fun X (hX : Below wr.heap.size wr X) (hu : o.fUsed = true) => HTH.out X (hbel.trans (hX.mono hbel.size)) k o _ b' hlo hu ((good_sl good_ASlot).keep hPp (Keep.of_below [] hX) (by simp)))
   clear hPp
   have HU := hd (fun X => used_any (k : Int) o.fUsed X)
   unfold MASlot.cells cB cI at HX
   obtain ⟨V, hV⟩ : ∃ V, wr.alloc (.cells #[.int .i64 (k : Int), .bool o.fUsed, .bool o.fUsed, .int .i64 o.fPid, .int .i64 o.fParent, .int .i64 o.fState, .int .i64 o.fProg, .int .i64 o.fPc, .int .i64 o.fUntil, .int .i64 o.fCode, .slice x1 o.fRegs.length y1, .slice x2 o.fPt.length y2, .slice x3 o.fFds.length y3] 187) = V := ⟨_, rfl⟩
   have hbV : Below wr.heap.size wr V := by rw [← hV]; exact (Below.refl _ _).alloc (Nat.le_refl _) _
   have hA := cell_box wr [.int .i64 (k : Int), .bool o.fUsed, .bool o.fUsed, .int .i64 o.fPid, .int .i64 o.fParent, .int .i64 o.fState, .int .i64 o.fProg, .int .i64 o.fPc, .int .i64 o.fUntil, .int .i64 o.fCode, .slice x1 o.fRegs.length y1, .slice x2 o.fPt.length y2, .slice x3 o.fFds.length y3] 187 _ rfl
   replace hA : ∀ (j : Nat) (u : Value), [.int .i64 (k : Int), .bool o.fUsed, .bool o.fUsed, .int .i64 o.fPid, .int .i64 o.fParent, .int .i64 o.fState, .int .i64 o.fProg, .int .i64 o.fPc, .int .i64 o.fUntil, .int .i64 o.fCode, .slice x1 o.fRegs.length y1, .slice x2 o.fPt.length y2, .slice x3 o.fFds.length y3][j]? = some u → V.cell? ⟨wr.heap.size, j, none⟩ = some u := by rw [← hV]; exact hA
   replace hV := hd hV
   have q0 := cellB (hA 0 _ rfl)
   have q1 := cellB (hA 1 _ rfl)
   have q2 := cellB (hA 2 _ rfl)
   have q3 := cellB (hA 3 _ rfl)
   have q4 := cellB (hA 4 _ rfl)
   have q5 := cellB (hA 5 _ rfl)
   have q6 := cellB (hA 6 _ rfl)
   have q7 := cellB (hA 7 _ rfl)
   have q8 := cellB (hA 8 _ rfl)
   have q9 := cellB (hA 9 _ rfl)
   have q10 := cellB (hA 10 _ rfl)
   have q11 := cellB (hA 11 _ rfl)
   have q12 := cellB (hA 12 _ rfl)
   clear hA
   obtain ⟨x0, hx0⟩ : ∃ x0 : Bel V, x0.w = V := ⟨⟨V, Below.refl _ _⟩, rfl⟩
   replace hx0 := hd hx0
   have hk0 : (0 : Int) ≤ k := by omega
   have hk1 : (k : Int) < l.length := by omega
   have HL := hd hlo
   clear hlo
   go_wp2_with (go_at_call 322; fail)
   rw [hV.out, ← hx0.out]
   refine (HU.out x0.w).mono ?_
   rintro e w1 ⟨rfl, hb1⟩
   obtain ⟨y1, hy1⟩ : ∃ y1 : Bel V, w1 = y1.w := ⟨⟨w1, x0.ok.trans (hb1.mono x0.ok.size)⟩, rfl⟩
   subst hy1
   clear hb1 c0 c1 c2 c3 c4 c5 c6 c7 c8 c9 c10 c11 c12
   have hby : Below wr.heap.size wr y1.w := hbV.trans (y1.ok.mono hbV.size)
   have hs0 := hbel.size
   have hs1 := hby.size
   cases hu : o.fUsed
   ·have HG : Hid (Gr 177 10 PProc w.heap.size y1.w (.slice a5 n5 c5) (usedK MASlot.fUsed mk l (k + 1))) := hd (by rw [used_no HL.out hu]; exact ⟨bs5, hr5.keep good_Proc (Keep.of_below [] hby) (by simp), hn5, hg5⟩)
    have hbz := hbel.trans (hby.mono hbel.size)
    clear hu hr5
    go_wp2_with fail
    go_roundw
    case rel => exact ⟨k + 1, by omega, by go_num, HG, hbz⟩
    case measure => simp [intOf]; omega
   ·have HUY := hd (used_yes (mk := mk) HL.out hu)
    have HC := hd (HX.out y1.w hby hu)
    clear hu HX
    go_wp2_with (go_at_call 137; fail)
    refine HC.out.mono ?_
    rintro e w3 ⟨cs3, d3, rfl, hP3, hn3, hs3, hb3⟩
    have hPp3 := hP3
    have hlt3 := good_Proc.lt hP3
    obtain ⟨u1, u2, u3, e1, e2, e3, rfl, m1, m2, m3, hdd⟩ := hP3
    obtain ⟨s1, t1, rfl⟩ := gv_IntS.slice m1
    obtain ⟨s2, t2, rfl⟩ := gv_IntS.slice m2
    obtain ⟨s3, t3, rfl⟩ := gv_IntS.slice m3
    unfold MProc.cells at hPp3
    clear hdd m1 m2 m3 HC
    have hb03 : Below wr.heap.size wr w3 := hby.trans (hb3.mono hby.size)
    have hs3' := hb3.size
    have hal : Below w3.heap.size w3 (w3.alloc (.cells #[.int .i64 (mk k o).fPid, .int .i64 (mk k o).fParent, .int .i64 (mk k o).fState, .int .i64 (mk k o).fProg, .int .i64 (mk k o).fCpu.fPc, .slice s1 (mk k o).fCpu.fRegs.length t1, .slice s2 (mk k o).fMem.length t2, .slice s3 (mk k o).fFds.length t3, .int .i64 (mk k o).fUntil, .int .i64 (mk k o).fCode] 177)) := (Below.refl _ _).alloc (Nat.le_refl _) _
    have hbW : Below wr.heap.size wr (w3.alloc (.cells #[.int .i64 (mk k o).fPid, .int .i64 (mk k o).fParent, .int .i64 (mk k o).fState, .int .i64 (mk k o).fProg, .int .i64 (mk k o).fCpu.fPc, .slice s1 (mk k o).fCpu.fRegs.length t1, .slice s2 (mk k o).fMem.length t2, .slice s3 (mk k o).fFds.length t3, .int .i64 (mk k o).fUntil, .int .i64 (mk k o).fCode] 177)) := hb03.trans (hal.mono hb03.size)
    unfold MProc.cells cI
    go_wp2_with (at_builtin; refine wpList_append_elem (P := PProc) good_Proc Tryz.underlying35 infoO_Proc rfl (by decide) (by decide) rfl _ _ rfl (.slice a5 n5 c5) (usedK MASlot.fUsed mk l k) bs5 rfl (hr5.keep good_Proc (Keep.of_below [] hbW) (by simp)) hn5 w3.heap.size 0 1 [.int .i64 (mk k o).fPid, .int .i64 (mk k o).fParent, .int .i64 (mk k o).fState, .int .i64 (mk k o).fProg, .int .i64 (mk k o).fCpu.fPc, .slice s1 (mk k o).fCpu.fRegs.length t1, .slice s2 (mk k o).fMem.length t2, .slice s3 (mk k o).fFds.length t3, .int .i64 (mk k o).fUntil, .int .i64 (mk k o).fCode] (mk k o) d3 rfl (one_at w3 _ _ _ rfl) rfl (by simp [Value.oneCell']) (good_Proc.keep hPp3 (Keep.of_below [] hal) (by simp)) hn3 (fun q hq hqb => by have := hs3 q hq; have := hlr5 q hqb; omega) hul5 ?_)
    intro v2 w2 bs2 hr2 hn2 hs2 hk2 hv2
    have hb2 : Below w.heap.size w w2 := (hbel.trans (hbW.mono hbel.size)).trans (hk2.below (fun y hy => hg5 y (by obtain ⟨_, _, _, _, e9, _⟩ := hr5; rw [e9]; exact List.mem_append_left _ hy)) (by have := hbW.size; omega))
    have HG : Hid (Gr 177 10 PProc w.heap.size w2 v2 (usedK MASlot.fUsed mk l (k + 1))) := hd ⟨bs2, by rw [HUY.out]; exact hr2, hn2, fun y hy => by
     rcases hs2 y hy with h1 | h1 | h1
     ·exact hg5 y h1
     ·have := hs3 y h1; omega
     ·have := hbW.size; omega⟩
    clear hr2 hn2 hs2 hk2 hv2 hr5
    go_wp2_with fail
    go_roundw
    case rel => exact ⟨k + 1, by omega, by go_num, HG, hb2⟩
    case measure => simp [intOf]; omega
  ·obtain rfl : k = l.length := by omega
   have HXX := hd hr5
   clear hr5
   go_wp2
   go_ret
   exact ⟨_, bs5, rfl, HXX.out, hn5, hg5, hbel⟩

theorem infoO_Open : (Tryz.prog.info? 93).map (fun i => (i.zero, i.size, i.bytes)) = some (some (.agg #[.int .i64 0, .int .i64 0, .int .i64 0, .int .i64 0, .int .i64 0]), 5, 40) := by kernel_rfl
set_option maxHeartbeats 8000000 in
theorem standing_AOpen (v : Value) (l : List MAOpen) (bs : List Nat) (mk : Nat → MAOpen → MOpen) (w : World) (hl : l.length ≤ 1000) (h : O_openSlot w v l.zipIdx bs)
  (hT : ∀ X, Below w.heap.size w X → ∀ (i : Nat) (o : MAOpen) cs b, l[i]? = some o → o.fUsed = true → P_openSlot X cs (o, i) b → Calls Tryz.prog 46 #[.agg cs.toArray] X fun e w' => ∃ cs' d, e = .returned (.agg cs'.toArray) ∧ POpen w' cs' (mk i o) d ∧ d.Nodup ∧ (∀ y ∈ d, X.heap.size ≤ y) ∧ Below X.heap.size X w') :
  Calls Tryz.prog 43 #[v, .func (.func 46) #[] #[]] w fun e w' => ∃ v' d, e = .returned v' ∧ OOpenS w' v' (usedK MAOpen.fUsed mk l l.length) d ∧ d.Nodup ∧ (∀ y ∈ d, w.heap.size ≤ y) ∧ Below w.heap.size w w' := by
 obtain ⟨a, c, hv⟩ := h.slice
 rw [List.length_zipIdx] at hv
 subst hv
 have HR := hd h
 have HTH := hd hT
 clear h hT
 go_enter Tryz.func43, Tryz.ntmps43
 go_wp2_with fail
 go_loopw [5, 10] (fun v i wr => ∃ k : Nat, k ≤ l.length ∧ i = .int .i64 k ∧ Hid (Gr 93 5 POpen w.heap.size wr v (usedK MAOpen.fUsed mk l k)) ∧ Below w.heap.size w wr) (fun _ i _ => l.length - (intOf i).toNat)
 case atStart => exact ⟨0, Nat.zero_le _, rfl, hd (by simpa [usedK] using gr_start _ _ _ _ _), Below.refl _ _⟩
 case round =>
  obtain ⟨k, hk, rfl, hgr, hbel⟩ := hrel
  obtain ⟨bs5, hr5, hn5, hg5⟩ := hgr.out
  clear hgr
  have hlr5 := hr5.lt good_Open
  have hul5 : (usedK MAOpen.fUsed mk l k).length ≤ 2999999 := by have := used_len (us := MAOpen.fUsed) (mk := mk) (l := l) (k := k); omega
  obtain ⟨a5, c5, hv5⟩ := hr5.slice
  obtain ⟨n5, hn5'⟩ : ∃ n5, (usedK MAOpen.fUsed mk l k).length = n5 := ⟨_, rfl⟩
  rw [hn5'] at hv5
  subst hv5
  by_cases hlt : k < l.length
  ·obtain ⟨g0, rfl⟩ : ∃ g0, a = some ⟨g0, 0, none⟩ := by
    rcases HR.out.cases with ⟨hh, h0, _⟩ | ⟨g0, cap, hh, _⟩
    ·have := congrArg List.length h0; simp at this; rw [this] at hlt; simp at hlt
    ·simp at hh; exact ⟨g0, hh.1⟩
   obtain ⟨x, cs, b', hp, hP, ho⟩ := (HR.out.below (good_sl good_AOpen) hbel).out (i := k) (by simpa using hlt)
   rw [List.getElem?_zipIdx] at hp
   simp only [Nat.zero_add] at hp
   obtain ⟨o, hlo, rfl⟩ := Option.map_eq_some_iff.1 hp
   clear hp
   have hPp := hP
   obtain ⟨cs', rfl, rfl, hbb⟩ := hP
   clear hbb
   have c0 := ho.cell 0 _ rfl
   have c1 := ho.cell 1 _ rfl
   have c2 := ho.cell 2 _ rfl
   have c3 := ho.cell 3 _ rfl
   have c4 := ho.cell 4 _ rfl
   have c5 := ho.cell 5 _ rfl
   have c6 := ho.cell 6 _ rfl
   rw [Nat.add_zero] at c0
   unfold cI at c0 c3 c4 c5 c6
   unfold cB at c1 c2
   clear ho
   have HX := hd (fun X (hX : Below wr.heap.size wr X) (hu : o.fUsed = true) => HTH.out X (hbel.trans (hX.mono hbel.size)) k o _ b' hlo hu ((good_sl good_AOpen).keep hPp (Keep.of_below [] hX) (by simp)))
   clear hPp
   have HU := hd (fun X => used_any (k : Int) o.fUsed X)
   unfold MAOpen.cells cB cI at HX
   obtain ⟨V, hV⟩ : ∃ V, wr.alloc (.cells #[.int .i64 (k : Int), .bool o.fUsed, .bool o.fUsed, .int .i64 o.fKind, .int .i64 o.fTarget, .int .i64 o.fOff, .int .i64 o.fRefs] 91) = V := ⟨_, rfl⟩
   have hbV : Below wr.heap.size wr V := by rw [← hV]; exact (Below.refl _ _).alloc (Nat.le_refl _) _
   have hA := cell_box wr [.int .i64 (k : Int), .bool o.fUsed, .bool o.fUsed, .int .i64 o.fKind, .int .i64 o.fTarget, .int .i64 o.fOff, .int .i64 o.fRefs] 91 _ rfl
   replace hA : ∀ (j : Nat) (u : Value), [.int .i64 (k : Int), .bool o.fUsed, .bool o.fUsed, .int .i64 o.fKind, .int .i64 o.fTarget, .int .i64 o.fOff, .int .i64 o.fRefs][j]? = some u → V.cell? ⟨wr.heap.size, j, none⟩ = some u := by rw [← hV]; exact hA
   replace hV := hd hV
   have q0 := cellB (hA 0 _ rfl)
   have q1 := cellB (hA 1 _ rfl)
   have q2 := cellB (hA 2 _ rfl)
   have q3 := cellB (hA 3 _ rfl)
   have q4 := cellB (hA 4 _ rfl)
   have q5 := cellB (hA 5 _ rfl)
   have q6 := cellB (hA 6 _ rfl)
   clear hA
   obtain ⟨x0, hx0⟩ : ∃ x0 : Bel V, x0.w = V := ⟨⟨V, Below.refl _ _⟩, rfl⟩
   replace hx0 := hd hx0
   have hk0 : (0 : Int) ≤ k := by omega
   have hk1 : (k : Int) < l.length := by omega
   have HL := hd hlo
   clear hlo
   go_wp2_with (go_at_call 322; fail)
   rw [hV.out, ← hx0.out]
   refine (HU.out x0.w).mono ?_
   rintro e w1 ⟨rfl, hb1⟩
   obtain ⟨y1, hy1⟩ : ∃ y1 : Bel V, w1 = y1.w := ⟨⟨w1, x0.ok.trans (hb1.mono x0.ok.size)⟩, rfl⟩
   subst hy1
   clear hb1 c0 c1 c2 c3 c4 c5 c6
   have hby : Below wr.heap.size wr y1.w := hbV.trans (y1.ok.mono hbV.size)
   have hs0 := hbel.size
   have hs1 := hby.size
   cases hu : o.fUsed
   ·have HG : Hid (Gr 93 5 POpen w.heap.size y1.w (.slice a5 n5 c5) (usedK MAOpen.fUsed mk l (k + 1))) := hd (by rw [used_no HL.out hu]; exact ⟨bs5, hr5.keep good_Open (Keep.of_below [] hby) (by simp), hn5, hg5⟩)
    have hbz := hbel.trans (hby.mono hbel.size)
    clear hu hr5
    go_wp2_with fail
    go_roundw
    case rel => exact ⟨k + 1, by omega, by go_num, HG, hbz⟩
    case measure => simp [intOf]; omega
   ·have HUY := hd (used_yes (mk := mk) HL.out hu)
    have HC := hd (HX.out y1.w hby hu)
    clear hu HX
    go_wp2_with (go_at_call 46; fail)
    refine HC.out.mono ?_
    rintro e w3 ⟨cs3, d3, rfl, hP3, hn3, hs3, hb3⟩
    have hPp3 := hP3
    have hlt3 := good_Open.lt hP3
    obtain ⟨rfl, hdd⟩ := hP3
    unfold MOpen.cells at hPp3
    clear hdd  HC
    have hb03 : Below wr.heap.size wr w3 := hby.trans (hb3.mono hby.size)
    have hs3' := hb3.size
    have hal : Below w3.heap.size w3 (w3.alloc (.cells #[.int .i64 (mk k o).fId, .int .i64 (mk k o).fKind, .int .i64 (mk k o).fTarget, .int .i64 (mk k o).fOff, .int .i64 (mk k o).fRefs] 93)) := (Below.refl _ _).alloc (Nat.le_refl _) _
    have hbW : Below wr.heap.size wr (w3.alloc (.cells #[.int .i64 (mk k o).fId, .int .i64 (mk k o).fKind, .int .i64 (mk k o).fTarget, .int .i64 (mk k o).fOff, .int .i64 (mk k o).fRefs] 93)) := hb03.trans (hal.mono hb03.size)
    unfold MOpen.cells cI
    go_wp2_with (at_builtin; refine wpList_append_elem (P := POpen) good_Open Tryz.underlying36 infoO_Open rfl (by decide) (by decide) rfl _ _ rfl (.slice a5 n5 c5) (usedK MAOpen.fUsed mk l k) bs5 rfl (hr5.keep good_Open (Keep.of_below [] hbW) (by simp)) hn5 w3.heap.size 0 1 [.int .i64 (mk k o).fId, .int .i64 (mk k o).fKind, .int .i64 (mk k o).fTarget, .int .i64 (mk k o).fOff, .int .i64 (mk k o).fRefs] (mk k o) d3 rfl (one_at w3 _ _ _ rfl) rfl (by simp [Value.oneCell']) (good_Open.keep hPp3 (Keep.of_below [] hal) (by simp)) hn3 (fun q hq hqb => by have := hs3 q hq; have := hlr5 q hqb; omega) hul5 ?_)
    intro v2 w2 bs2 hr2 hn2 hs2 hk2 hv2
    have hb2 : Below w.heap.size w w2 := (hbel.trans (hbW.mono hbel.size)).trans (hk2.below (fun y hy => hg5 y (by obtain ⟨_, _, _, _, e9, _⟩ := hr5; rw [e9]; exact List.mem_append_left _ hy)) (by have := hbW.size; omega))
    have HG : Hid (Gr 93 5 POpen w.heap.size w2 v2 (usedK MAOpen.fUsed mk l (k + 1))) := hd ⟨bs2, by rw [HUY.out]; exact hr2, hn2, fun y hy => by
     rcases hs2 y hy with h1 | h1 | h1
     ·exact hg5 y h1
     ·have := hs3 y h1; omega
     ·have := hbW.size; omega⟩
    clear hr2 hn2 hs2 hk2 hv2 hr5
    go_wp2_with fail
    go_roundw
    case rel => exact ⟨k + 1, by omega, by go_num, HG, hb2⟩
    case measure => simp [intOf]; omega
  ·obtain rfl : k = l.length := by omega
   have HXX := hd hr5
   clear hr5
   go_wp2
   go_ret
   exact ⟨_, bs5, rfl, HXX.out, hn5, hg5, hbel⟩

theorem infoO_Pipe : (Tryz.prog.info? 103).map (fun i => (i.zero, i.size, i.bytes)) = some (some (.agg #[.int .i64 0, .slice none 0 0]), 2, 32) := by kernel_rfl
set_option maxHeartbeats 8000000 in
theorem standing_ARing (v : Value) (l : List MARing) (bs : List Nat) (mk : Nat → MARing → MPipe) (w : World) (hl : l.length ≤ 1000) (h : O_pipeSlot w v l.zipIdx bs)
  (hT : ∀ X, Below w.heap.size w X → ∀ (i : Nat) (o : MARing) cs b, l[i]? = some o → o.fUsed = true → P_pipeSlot X cs (o, i) b → Calls Tryz.prog 50 #[.agg cs.toArray] X fun e w' => ∃ cs' d, e = .returned (.agg cs'.toArray) ∧ PPipe w' cs' (mk i o) d ∧ d.Nodup ∧ (∀ y ∈ d, X.heap.size ≤ y) ∧ Below X.heap.size X w') :
  Calls Tryz.prog 47 #[v, .func (.func 50) #[] #[]] w fun e w' => ∃ v' d, e = .returned v' ∧ OPipeS w' v' (usedK MARing.fUsed mk l l.length) d ∧ d.Nodup ∧ (∀ y ∈ d, w.heap.size ≤ y) ∧ Below w.heap.size w w' := by
 obtain ⟨a, c, hv⟩ := h.slice
 rw [List.length_zipIdx] at hv
 subst hv
 have HR := hd h
 have HTH := hd hT
 clear h hT
 go_enter Tryz.func47, Tryz.ntmps47
 go_wp2_with fail
 go_loopw [5, 10] (fun v i wr => ∃ k : Nat, k ≤ l.length ∧ i = .int .i64 k ∧ Hid (Gr 103 2 PPipe w.heap.size wr v (usedK MARing.fUsed mk l k)) ∧ Below w.heap.size w wr) (fun _ i _ => l.length - (intOf i).toNat)
 case atStart => exact ⟨0, Nat.zero_le _, rfl, hd (by simpa [usedK] using gr_start _ _ _ _ _), Below.refl _ _⟩
 case round =>
  obtain ⟨k, hk, rfl, hgr, hbel⟩ := hrel
  obtain ⟨bs5, hr5, hn5, hg5⟩ := hgr.out
  clear hgr
  have hlr5 := hr5.lt good_Pipe
  have hul5 : (usedK MARing.fUsed mk l k).length ≤ 2999999 := by have := used_len (us := MARing.fUsed) (mk := mk) (l := l) (k := k); omega
  obtain ⟨a5, c5, hv5⟩ := hr5.slice
  obtain ⟨n5, hn5'⟩ : ∃ n5, (usedK MARing.fUsed mk l k).length = n5 := ⟨_, rfl⟩
  rw [hn5'] at hv5
  subst hv5
  by_cases hlt : k < l.length
  ·obtain ⟨g0, rfl⟩ : ∃ g0, a = some ⟨g0, 0, none⟩ := by
    rcases HR.out.cases with ⟨hh, h0, _⟩ | ⟨g0, cap, hh, _⟩
    ·have := congrArg List.length h0; simp at this; rw [this] at hlt; simp at hlt
    ·simp at hh; exact ⟨g0, hh.1⟩
   obtain ⟨x, cs, b', hp, hP, ho⟩ := (HR.out.below (good_sl good_ARing) hbel).out (i := k) (by simpa using hlt)
   rw [List.getElem?_zipIdx] at hp
   simp only [Nat.zero_add] at hp
   obtain ⟨o, hlo, rfl⟩ := Option.map_eq_some_iff.1 hp
   clear hp
   have hPp := hP
   obtain ⟨cs', rfl, v1, bb1, rfl, k1, hbb⟩ := hP
   dsimp only at k1
   obtain ⟨x1, y1, rfl⟩ := gv_IntS.slice k1
   clear k1 hbb
   have c0 := ho.cell 0 _ rfl
   have c1 := ho.cell 1 _ rfl
   have c2 := ho.cell 2 _ rfl
   have c3 := ho.cell 3 _ rfl
   have c4 := ho.cell 4 _ rfl
   have c5 := ho.cell 5 _ rfl
   rw [Nat.add_zero] at c0
   unfold cI at c0 c4 c5
   unfold cB at c1 c2
   clear ho
   have HX := hd (fun X (hX : Below wr.heap.size wr X) (hu : o.fUsed = true) => HTH.out X (hbel.trans (hX.mono hbel.size)) k o _ b' hlo hu ((good_sl good_ARing).keep hPp (Keep.of_below [] hX) (by simp)))
   clear hPp
   have HU := hd (fun X => used_any (k : Int) o.fUsed X)
   unfold MARing.cells cB cI at HX
   obtain ⟨V, hV⟩ : ∃ V, wr.alloc (.cells #[.int .i64 (k : Int), .bool o.fUsed, .bool o.fUsed, .slice x1 o.fBuf.length y1, .int .i64 o.fHead, .int .i64 o.fLen] 101) = V := ⟨_, rfl⟩
   have hbV : Below wr.heap.size wr V := by rw [← hV]; exact (Below.refl _ _).alloc (Nat.le_refl _) _
   have hA := cell_box wr [.int .i64 (k : Int), .bool o.fUsed, .bool o.fUsed, .slice x1 o.fBuf.length y1, .int .i64 o.fHead, .int .i64 o.fLen] 101 _ rfl
   replace hA : ∀ (j : Nat) (u : Value), [.int .i64 (k : Int), .bool o.fUsed, .bool o.fUsed, .slice x1 o.fBuf.length y1, .int .i64 o.fHead, .int .i64 o.fLen][j]? = some u → V.cell? ⟨wr.heap.size, j, none⟩ = some u := by rw [← hV]; exact hA
   replace hV := hd hV
   have q0 := cellB (hA 0 _ rfl)
   have q1 := cellB (hA 1 _ rfl)
   have q2 := cellB (hA 2 _ rfl)
   have q3 := cellB (hA 3 _ rfl)
   have q4 := cellB (hA 4 _ rfl)
   have q5 := cellB (hA 5 _ rfl)
   clear hA
   obtain ⟨x0, hx0⟩ : ∃ x0 : Bel V, x0.w = V := ⟨⟨V, Below.refl _ _⟩, rfl⟩
   replace hx0 := hd hx0
   have hk0 : (0 : Int) ≤ k := by omega
   have hk1 : (k : Int) < l.length := by omega
   have HL := hd hlo
   clear hlo
   go_wp2_with (go_at_call 322; fail)
   rw [hV.out, ← hx0.out]
   refine (HU.out x0.w).mono ?_
   rintro e w1 ⟨rfl, hb1⟩
   obtain ⟨y1, hy1⟩ : ∃ y1 : Bel V, w1 = y1.w := ⟨⟨w1, x0.ok.trans (hb1.mono x0.ok.size)⟩, rfl⟩
   subst hy1
   clear hb1 c0 c1 c2 c3 c4 c5
   have hby : Below wr.heap.size wr y1.w := hbV.trans (y1.ok.mono hbV.size)
   have hs0 := hbel.size
   have hs1 := hby.size
   cases hu : o.fUsed
   ·have HG : Hid (Gr 103 2 PPipe w.heap.size y1.w (.slice a5 n5 c5) (usedK MARing.fUsed mk l (k + 1))) := hd (by rw [used_no HL.out hu]; exact ⟨bs5, hr5.keep good_Pipe (Keep.of_below [] hby) (by simp), hn5, hg5⟩)
    have hbz := hbel.trans (hby.mono hbel.size)
    clear hu hr5
    go_wp2_with fail
    go_roundw
    case rel => exact ⟨k + 1, by omega, by go_num, HG, hbz⟩
    case measure => simp [intOf]; omega
   ·have HUY := hd (used_yes (mk := mk) HL.out hu)
    have HC := hd (HX.out y1.w hby hu)
    clear hu HX
    go_wp2_with (go_at_call 50; fail)
    refine HC.out.mono ?_
    rintro e w3 ⟨cs3, d3, rfl, hP3, hn3, hs3, hb3⟩
    have hPp3 := hP3
    have hlt3 := good_Pipe.lt hP3
    obtain ⟨u1, e1, rfl, m1, hdd⟩ := hP3
    obtain ⟨s1, t1, rfl⟩ := gv_IntS.slice m1
    unfold MPipe.cells at hPp3
    clear hdd m1 HC
    have hb03 : Below wr.heap.size wr w3 := hby.trans (hb3.mono hby.size)
    have hs3' := hb3.size
    have hal : Below w3.heap.size w3 (w3.alloc (.cells #[.int .i64 (mk k o).fId, .slice s1 (mk k o).fData.length t1] 103)) := (Below.refl _ _).alloc (Nat.le_refl _) _
    have hbW : Below wr.heap.size wr (w3.alloc (.cells #[.int .i64 (mk k o).fId, .slice s1 (mk k o).fData.length t1] 103)) := hb03.trans (hal.mono hb03.size)
    unfold MPipe.cells cI
    go_wp2_with (at_builtin; refine wpList_append_elem (P := PPipe) good_Pipe Tryz.underlying37 infoO_Pipe rfl (by decide) (by decide) rfl _ _ rfl (.slice a5 n5 c5) (usedK MARing.fUsed mk l k) bs5 rfl (hr5.keep good_Pipe (Keep.of_below [] hbW) (by simp)) hn5 w3.heap.size 0 1 [.int .i64 (mk k o).fId, .slice s1 (mk k o).fData.length t1] (mk k o) d3 rfl (one_at w3 _ _ _ rfl) rfl (by simp [Value.oneCell']) (good_Pipe.keep hPp3 (Keep.of_below [] hal) (by simp)) hn3 (fun q hq hqb => by have := hs3 q hq; have := hlr5 q hqb; omega) hul5 ?_)
    intro v2 w2 bs2 hr2 hn2 hs2 hk2 hv2
    have hb2 : Below w.heap.size w w2 := (hbel.trans (hbW.mono hbel.size)).trans (hk2.below (fun y hy => hg5 y (by obtain ⟨_, _, _, _, e9, _⟩ := hr5; rw [e9]; exact List.mem_append_left _ hy)) (by have := hbW.size; omega))
    have HG : Hid (Gr 103 2 PPipe w.heap.size w2 v2 (usedK MARing.fUsed mk l (k + 1))) := hd ⟨bs2, by rw [HUY.out]; exact hr2, hn2, fun y hy => by
     rcases hs2 y hy with h1 | h1 | h1
     ·exact hg5 y h1
     ·have := hs3 y h1; omega
     ·have := hbW.size; omega⟩
    clear hr2 hn2 hs2 hk2 hv2 hr5
    go_wp2_with fail
    go_roundw
    case rel => exact ⟨k + 1, by omega, by go_num, HG, hb2⟩
    case measure => simp [intOf]; omega
  ·obtain rfl : k = l.length := by omega
   have HXX := hd hr5
   clear hr5
   go_wp2
   go_ret
   exact ⟨_, bs5, rfl, HXX.out, hn5, hg5, hbel⟩

theorem infoO_File : (Tryz.prog.info? 115).map (fun i => (i.zero, i.size, i.bytes)) = some (some (.agg #[.int .i64 0, .slice none 0 0]), 2, 32) := by kernel_rfl
set_option maxHeartbeats 8000000 in
theorem standing_AFile (v : Value) (l : List MAFile) (bs : List Nat) (mk : Nat → MAFile → MFile) (w : World) (hl : l.length ≤ 1000) (h : O_fileSlot w v l.zipIdx bs)
  (hT : ∀ X, Below w.heap.size w X → ∀ (i : Nat) (o : MAFile) cs b, l[i]? = some o → o.fUsed = true → P_fileSlot X cs (o, i) b → Calls Tryz.prog 54 #[.agg cs.toArray] X fun e w' => ∃ cs' d, e = .returned (.agg cs'.toArray) ∧ PFile w' cs' (mk i o) d ∧ d.Nodup ∧ (∀ y ∈ d, X.heap.size ≤ y) ∧ Below X.heap.size X w') :
  Calls Tryz.prog 51 #[v, .func (.func 54) #[] #[]] w fun e w' => ∃ v' d, e = .returned v' ∧ OFileS w' v' (usedK MAFile.fUsed mk l l.length) d ∧ d.Nodup ∧ (∀ y ∈ d, w.heap.size ≤ y) ∧ Below w.heap.size w w' := by
 obtain ⟨a, c, hv⟩ := h.slice
 rw [List.length_zipIdx] at hv
 subst hv
 have HR := hd h
 have HTH := hd hT
 clear h hT
 go_enter Tryz.func51, Tryz.ntmps51
 go_wp2_with fail
 go_loopw [5, 10] (fun v i wr => ∃ k : Nat, k ≤ l.length ∧ i = .int .i64 k ∧ Hid (Gr 115 2 PFile w.heap.size wr v (usedK MAFile.fUsed mk l k)) ∧ Below w.heap.size w wr) (fun _ i _ => l.length - (intOf i).toNat)
 case atStart => exact ⟨0, Nat.zero_le _, rfl, hd (by simpa [usedK] using gr_start _ _ _ _ _), Below.refl _ _⟩
 case round =>
  obtain ⟨k, hk, rfl, hgr, hbel⟩ := hrel
  obtain ⟨bs5, hr5, hn5, hg5⟩ := hgr.out
  clear hgr
  have hlr5 := hr5.lt good_File
  have hul5 : (usedK MAFile.fUsed mk l k).length ≤ 2999999 := by have := used_len (us := MAFile.fUsed) (mk := mk) (l := l) (k := k); omega
  obtain ⟨a5, c5, hv5⟩ := hr5.slice
  obtain ⟨n5, hn5'⟩ : ∃ n5, (usedK MAFile.fUsed mk l k).length = n5 := ⟨_, rfl⟩
  rw [hn5'] at hv5
  subst hv5
  by_cases hlt : k < l.length
  ·obtain ⟨g0, rfl⟩ : ∃ g0, a = some ⟨g0, 0, none⟩ := by
    rcases HR.out.cases with ⟨hh, h0, _⟩ | ⟨g0, cap, hh, _⟩
    ·have := congrArg List.length h0; simp at this; rw [this] at hlt; simp at hlt
    ·simp at hh; exact ⟨g0, hh.1⟩
   obtain ⟨x, cs, b', hp, hP, ho⟩ := (HR.out.below (good_sl good_AFile) hbel).out (i := k) (by simpa using hlt)
   rw [List.getElem?_zipIdx] at hp
   simp only [Nat.zero_add] at hp
   obtain ⟨o, hlo, rfl⟩ := Option.map_eq_some_iff.1 hp
   clear hp
   have hPp := hP
   obtain ⟨cs', rfl, v1, bb1, rfl, k1, hbb⟩ := hP
   dsimp only at k1
   obtain ⟨x1, y1, rfl⟩ := gv_IntS.slice k1
   clear k1 hbb
   have c0 := ho.cell 0 _ rfl
   have c1 := ho.cell 1 _ rfl
   have c2 := ho.cell 2 _ rfl
   have c3 := ho.cell 3 _ rfl
   rw [Nat.add_zero] at c0
   unfold cI at c0
   unfold cB at c1 c2
   clear ho
   have HX := hd (fun X (hX : Below wr.heap.size wr X) (hu : o.fUsed = true) => HTH.out X (hbel.trans (hX.mono hbel.size)) k o _ b' hlo hu ((good_sl good_AFile).keep hPp (Keep.of_below [] hX) (by simp)))
   clear hPp
   have HU := hd (fun X => used_any (k : Int) o.fUsed X)
   unfold MAFile.cells cB cI at HX
   obtain ⟨V, hV⟩ : ∃ V, wr.alloc (.cells #[.int .i64 (k : Int), .bool o.fUsed, .bool o.fUsed, .slice x1 o.fData.length y1] 113) = V := ⟨_, rfl⟩
   have hbV : Below wr.heap.size wr V := by rw [← hV]; exact (Below.refl _ _).alloc (Nat.le_refl _) _
   have hA := cell_box wr [.int .i64 (k : Int), .bool o.fUsed, .bool o.fUsed, .slice x1 o.fData.length y1] 113 _ rfl
   replace hA : ∀ (j : Nat) (u : Value), [.int .i64 (k : Int), .bool o.fUsed, .bool o.fUsed, .slice x1 o.fData.length y1][j]? = some u → V.cell? ⟨wr.heap.size, j, none⟩ = some u := by rw [← hV]; exact hA
   replace hV := hd hV
   have q0 := cellB (hA 0 _ rfl)
   have q1 := cellB (hA 1 _ rfl)
   have q2 := cellB (hA 2 _ rfl)
   have q3 := cellB (hA 3 _ rfl)
   clear hA
   obtain ⟨x0, hx0⟩ : ∃ x0 : Bel V, x0.w = V := ⟨⟨V, Below.refl _ _⟩, rfl⟩
   replace hx0 := hd hx0
   have hk0 : (0 : Int) ≤ k := by omega
   have hk1 : (k : Int) < l.length := by omega
   have HL := hd hlo
   clear hlo
   go_wp2_with (go_at_call 322; fail)
   rw [hV.out, ← hx0.out]
   refine (HU.out x0.w).mono ?_
   rintro e w1 ⟨rfl, hb1⟩
   obtain ⟨y1, hy1⟩ : ∃ y1 : Bel V, w1 = y1.w := ⟨⟨w1, x0.ok.trans (hb1.mono x0.ok.size)⟩, rfl⟩
   subst hy1
   clear hb1 c0 c1 c2 c3
   have hby : Below wr.heap.size wr y1.w := hbV.trans (y1.ok.mono hbV.size)
   have hs0 := hbel.size
   have hs1 := hby.size
   cases hu : o.fUsed
   ·have HG : Hid (Gr 115 2 PFile w.heap.size y1.w (.slice a5 n5 c5) (usedK MAFile.fUsed mk l (k + 1))) := hd (by rw [used_no HL.out hu]; exact ⟨bs5, hr5.keep good_File (Keep.of_below [] hby) (by simp), hn5, hg5⟩)
    have hbz := hbel.trans (hby.mono hbel.size)
    clear hu hr5
    go_wp2_with fail
    go_roundw
    case rel => exact ⟨k + 1, by omega, by go_num, HG, hbz⟩
    case measure => simp [intOf]; omega
   ·have HUY := hd (used_yes (mk := mk) HL.out hu)
    have HC := hd (HX.out y1.w hby hu)
    clear hu HX
    go_wp2_with (go_at_call 54; fail)
    refine HC.out.mono ?_
    rintro e w3 ⟨cs3, d3, rfl, hP3, hn3, hs3, hb3⟩
    have hPp3 := hP3
    have hlt3 := good_File.lt hP3
    obtain ⟨u1, e1, rfl, m1, hdd⟩ := hP3
    obtain ⟨s1, t1, rfl⟩ := gv_IntS.slice m1
    unfold MFile.cells at hPp3
    clear hdd m1 HC
    have hb03 : Below wr.heap.size wr w3 := hby.trans (hb3.mono hby.size)
    have hs3' := hb3.size
    have hal : Below w3.heap.size w3 (w3.alloc (.cells #[.int .i64 (mk k o).fName, .slice s1 (mk k o).fData.length t1] 115)) := (Below.refl _ _).alloc (Nat.le_refl _) _
    have hbW : Below wr.heap.size wr (w3.alloc (.cells #[.int .i64 (mk k o).fName, .slice s1 (mk k o).fData.length t1] 115)) := hb03.trans (hal.mono hb03.size)
    unfold MFile.cells cI
    go_wp2_with (at_builtin; refine wpList_append_elem (P := PFile) good_File Tryz.underlying38 infoO_File rfl (by decide) (by decide) rfl _ _ rfl (.slice a5 n5 c5) (usedK MAFile.fUsed mk l k) bs5 rfl (hr5.keep good_File (Keep.of_below [] hbW) (by simp)) hn5 w3.heap.size 0 1 [.int .i64 (mk k o).fName, .slice s1 (mk k o).fData.length t1] (mk k o) d3 rfl (one_at w3 _ _ _ rfl) rfl (by simp [Value.oneCell']) (good_File.keep hPp3 (Keep.of_below [] hal) (by simp)) hn3 (fun q hq hqb => by have := hs3 q hq; have := hlr5 q hqb; omega) hul5 ?_)
    intro v2 w2 bs2 hr2 hn2 hs2 hk2 hv2
    have hb2 : Below w.heap.size w w2 := (hbel.trans (hbW.mono hbel.size)).trans (hk2.below (fun y hy => hg5 y (by obtain ⟨_, _, _, _, e9, _⟩ := hr5; rw [e9]; exact List.mem_append_left _ hy)) (by have := hbW.size; omega))
    have HG : Hid (Gr 115 2 PFile w.heap.size w2 v2 (usedK MAFile.fUsed mk l (k + 1))) := hd ⟨bs2, by rw [HUY.out]; exact hr2, hn2, fun y hy => by
     rcases hs2 y hy with h1 | h1 | h1
     ·exact hg5 y h1
     ·have := hs3 y h1; omega
     ·have := hbW.size; omega⟩
    clear hr2 hn2 hs2 hk2 hv2 hr5
    go_wp2_with fail
    go_roundw
    case rel => exact ⟨k + 1, by omega, by go_num, HG, hb2⟩
    case measure => simp [intOf]; omega
  ·obtain rfl : k = l.length := by omega
   have HXX := hd hr5
   clear hr5
   go_wp2
   go_ret
   exact ⟨_, bs5, rfl, HXX.out, hn5, hg5, hbel⟩

end Go.Proofs.YtoeolfegmklbaaaGreat.ArP
