/- What impl's parentOk and procOk answer. Condition: the processes' numbers are unlike. Ranging over the map of processes: which one comes. Condition: none. -/
import Derived.Test.YtoeolfegmklbaaaGreatMg13
import Derived.Deep.RegionWith
import Derived.BigRegion
namespace Go.Proofs.YtoeolfegmklbaaaGreat.ImG
open Go.RowKit Go.Deep Num InsC InsO ProgC IntC RowC PrgL UnC PlcM BootA SpC SpD ImA ImB ImC ImD ImE CpuI CpuS Bel SpA MpA ImF
set_option maxRecDepth 100000
set_option linter.unusedVariables false
set_option linter.unusedSimpArgs false

theorem calls_at {P : Program} {f : FuncId} {args : Array Value} {w : World} {Q : Ending → World → Prop} (x : Bel w) (hx : x.w = w) (h : Calls P f args x.w Q) : Calls P f args w Q := by rw [hx] at h; exact h
def parI (l : List Pr) (p : Pr) : Bool := if p.parent = 0 then !decide (p.state = 6) else match plcN Pr.pid p.parent l with
 | none => false
 | some k => !decide ((l.getD k default).pid = p.pid) && !decide ((l.getD k default).state = 6)
set_option maxHeartbeats 2000000 in
theorem parentOk_any (l : List Pr) (gs : List Nat) (D : DataW Unit) (M : Nat) (p : Pr) (G : Nat) (v1 v2 v3 : Value) (w : World) (hM : MapR w M l gs D) (hp : PAt w G p v1 v2 v3) (hwf : (Lit.int .i64 p.parent).wf = true) :
  Calls Tryz.prog 268 #[.map (some M), .pointer (some ⟨G, 0, none⟩)] w fun e w' => e = .returned (.bool (parI l p)) ∧ Below w.heap.size w w' := by
 have b0 := cellB (hp.cell 0 _ rfl)
 have b1 := cellB (hp.cell 1 _ rfl)
 have b2 := cellB (hp.cell 2 _ rfl)
 unfold ic at b0 b1 b2
 obtain ⟨r, hr⟩ : ∃ r, parI l p = r := ⟨_, rfl⟩
 rw [hr]
 replace hr := hd hr
 obtain ⟨x0, hx0⟩ : ∃ x0 : Bel w, x0.w = w := ⟨⟨w, Below.refl _ _⟩, rfl⟩
 refine calls_at x0 hx0 ?_
 clear hx0
 have HM := hd hM
 have HX := hd hwf
 clear hM hp hwf
 go_enter Tryz.func268, Tryz.ntmps268
 by_cases e0 : p.parent = 0
 ·have s0 : (p.parent == 0) = true := by simpa using e0
  have HF : Hid (r = (p.state != 6)) := hd (by rw [← hr.out, Bool.eq_iff_iff]; unfold parI; rw [if_pos e0]; simp)
  clear e0 hr
  go_wp2
  go_ret
  exact ⟨by rw [HF.out]; rfl, Bel.fin (Below.refl _ _) _⟩
 ·have s0 : (p.parent == 0) = false := by simpa using e0
  cases hk : plcN Pr.pid p.parent l with
  | none =>
   have hlook := fun x : Bel w => look_no (HM.out.below x.ok) HX.out hk
   have HF : Hid (r = false) := hd (by rw [← hr.out]; unfold parI; rw [if_neg e0, hk])
   clear e0 hr hk
   go_wp2_with fail
   refine region_in _ (by kernel_rfl) (by kernel_rfl) (fun hne => ?_)
   repeat (go_big_quiet_step (fail))
   refine wpQuiet_nil ?_
   rintro _ ⟨y, rfl⟩
   go_wp2
   go_ret
   exact ⟨by rw [HF.out]; rfl, Bel.fin (Below.refl _ _) _⟩
  | some k =>
   obtain ⟨q, hq, hqp⟩ := plcN_some Pr.pid p.parent l k hk
   have hkl := (List.getElem?_eq_some_iff.1 hq).1
   have hlen := HM.out.len
   obtain ⟨g, hg⟩ : ∃ g, gs[k]? = some g := ⟨gs[k], by simp⟩
   have hlook := fun x : Bel w => look_yes (HM.out.below x.ok) HX.out hk hg
   obtain ⟨_, u1, u2, u3, hu⟩ := HM.out.ent k q g hq hg
   have e0' := cellB (hu.cell 0 _ rfl)
   have e2' := cellB (hu.cell 2 _ rfl)
   unfold ic at e0' e2'
   have hgd : l.getD k default = q := by simp [List.getD_eq_getElem?_getD, hq]
   clear hu
   by_cases c1 : q.pid = p.pid
   ·have c1' : (q.pid != p.pid) = false := by simpa using c1
    have HF : Hid (r = false) := hd (by rw [← hr.out]; unfold parI; rw [if_neg e0, hk]; simp only [hgd]; simp [c1])
    clear e0 hr hk hq hqp c1 hgd
    go_wp2_with fail
    refine region_in _ (by kernel_rfl) (by kernel_rfl) (fun hne => ?_)
    repeat (go_big_quiet_step (fail))
    refine wpQuiet_nil ?_
    rintro _ ⟨y, rfl⟩
    go_wp2
    go_ret
    exact ⟨by rw [HF.out]; rfl, Bel.fin (Below.refl _ _) _⟩
   ·have c1' : (q.pid != p.pid) = true := by simpa using c1
    have HF : Hid (r = (q.state != 6)) := hd (by rw [← hr.out, Bool.eq_iff_iff]; unfold parI; rw [if_neg e0, hk]; simp only [hgd]; simp [c1])
    clear e0 hr hk hq hqp c1 hgd
    go_wp2_with fail
    refine region_in _ (by kernel_rfl) (by kernel_rfl) (fun hne => ?_)
    repeat (go_big_quiet_step (fail))
    refine wpQuiet_nil ?_
    rintro _ ⟨y, rfl⟩
    go_wp2
    go_ret
    exact ⟨by rw [HF.out]; rfl, Bel.fin (Below.refl _ _) _⟩

/-- A process that is right, as impl asks it. -/
def procI (u : Un) (p : Pr) : Bool := inB p.state 1 6 && (parI u.procs p && (inB p.prog 0 ((u.progs.length : Int) - 1) && (cpuB p.pc p.regs && (pagesB p.mem && (fdsI u.opens p.fds && (tilB u p && leftB p))))))
set_option maxHeartbeats 8000000 in
theorem procOk_any (u : Un) (s : Vs) (b : Bl) (gs : List Nat) (D : DataW Unit) (M : Nat) (p : Pr) (G : Nat) (v1 v2 v3 : Value) (w : World) (hs : u.Sm) (hps : p.Sm) (h : UnO w s u b) (hM : MapR w M u.procs gs D) (hp : PAt w G p v1 v2 v3) (hwf : (Lit.int .i64 p.parent).wf = true) :
  Calls Tryz.prog 230 #[u.v s, .map (some M), .pointer (some ⟨G, 0, none⟩)] w fun e w' => e = .returned (.bool (procI u p)) ∧ Below w.heap.size w w' := by
 have hbb := box_below w (bx u s) 40
 have hA := cell_box w (bx u s).toList 40 _ rfl
 obtain ⟨W, hW⟩ : ∃ W, w.alloc (.cells (bx u s) 40) = W := ⟨_, rfl⟩
 rw [show (bx u s).toList.toArray = bx u s by simp, hW] at hA
 rw [hW] at hbb
 replace hW := hd hW
 have hU := h.below hbb
 have hp2 := hp.below hbb
 have hM2 := hM.below hbb
 have H1 := hd (fun n a c => callS (P := Tryz.prog) (W := W) fun X => between_any n a c X)
 have H2 := hd (callB (P := Tryz.prog) (W := W) fun X hb => parentOk_any u.procs gs D M p G v1 v2 v3 X (hM2.below hb) (hp2.below hb) hwf)
 have H4 := hd (callB (P := Tryz.prog) (W := W) fun X hb => CpuI.impl_any p.pc v1 p.regs X (hp2.below hb).regs hps.regs)
 have H5 := hd (fun x : Bel W => bel_same (P := Tryz.prog) (pagesOk_any v2 p.mem x.w (hp2.below x.ok).mem hps.mem))
 have H6 := hd (callB (P := Tryz.prog) (W := W) fun X hb => fdsOk_any s.opens u.opens b.opens v3 p.fds X hs.opens hps.fds (hU.below hb).opens (hp2.below hb).fds)
 have H7 := hd (callB (P := Tryz.prog) (W := W) fun X hb => untilOk_any u s b p G v1 v2 v3 X hs (hU.below hb) (hp2.below hb))
 have H8 := hd (callB (P := Tryz.prog) (W := W) fun X hb => leftOk_any p G v1 v2 v3 X hps (hp2.below hb))
 have b0 := cellB (hp2.cell 0 _ rfl)
 have b1 := cellB (hp2.cell 1 _ rfl)
 have b2 := cellB (hp2.cell 2 _ rfl)
 have b3 := cellB (hp2.cell 3 _ rfl)
 have b4 := cellB (hp2.cell 4 _ rfl)
 have b5 := cellB (hp2.cell 5 _ rfl)
 have b6 := cellB (hp2.cell 6 _ rfl)
 have b7 := cellB (hp2.cell 7 _ rfl)
 have a0 := cellB (hA 0 _ rfl)
 have a1 := cellB (hA 1 _ rfl)
 have a2 := cellB (hA 2 _ rfl)
 have a3 := cellB (hA 3 _ rfl)
 have a4 := cellB (hA 4 _ rfl)
 have a5 := cellB (hA 5 _ rfl)
 have a6 := cellB (hA 6 _ rfl)
 have a7 := cellB (hA 7 _ rfl)
 have a8 := cellB (hA 8 _ rfl)
 obtain ⟨g2, c2, hv2⟩ := h.progs.slice
 obtain ⟨g4, c4, hv4⟩ := h.opens.slice
 obtain ⟨x1, y1, rfl⟩ := ints_slice hp.regs
 obtain ⟨x2, y2, rfl⟩ := ints_slice hp.mem
 obtain ⟨x3, y3, rfl⟩ := ints_slice hp.fds
 obtain ⟨p1, p2, p3, p4, p5, p6, p7⟩ := s
 simp only at hv2 hv4 a2 a3 a4 a5 a6 a7 a8 H6
 subst hv2 hv4
 have HBB := hd hbb
 have HLP : u.progs.length ≤ 1048576 := by have := hs.progs; unfold wt at this; omega
 unfold ic at a0 a1 b0 b1 b2 b3 b4
 unfold CpuC.cpu at H4
 unfold Un.v at H7
 unfold ic at H7
 simp only at H7
 obtain ⟨r, hr⟩ : ∃ r, procI u p = r := ⟨_, rfl⟩
 rw [hr]
 replace hr := hd hr
 unfold bx at hW
 unfold Un.v
 unfold ic
 simp only at hW ⊢
 obtain ⟨x0, hx0⟩ : ∃ x0 : Bel W, x0.w = W := ⟨⟨W, Below.refl _ _⟩, rfl⟩
 replace hx0 := hd hx0
 clear h hA hbb hs hU hp hM hp2 hM2
 go_enter Tryz.func230, Tryz.ntmps230
 go_wp2_with fail
 rw [hW.out, ← hx0.out]
 clear hW
 cases q1 : inB p.state 1 6
 ·skip
  have HF : Hid (r = false) := hd (by rw [← hr.out]; unfold procI; rw [q1]; rfl)
  clear hr
  refine region_in _ (by kernel_rfl) (by kernel_rfl) (fun hne => ?_)
  repeat (first | go_big_quiet_step ((first
    | (go_at_call 204; exact H1.out _ _ _ _)
    | (go_at_call 268; exact H2.out _)
    | (go_at_call 269; exact H4.out _)
    | (go_at_call 270; exact H5.out _)
    | (go_at_call 271; exact H6.out _)
    | (go_at_call 272; exact H7.out _)
    | (go_at_call 273; exact H8.out _))) | rw [q1] | rw [q3])
  refine wpQuiet_nil ?_
  rintro _ ⟨y, rfl⟩
  go_wp2
  go_ret
  exact ⟨by rw [HF.out]; rfl, Bel.fin HBB.out _⟩
 ·skip
  cases q2 : parI u.procs p
  ·rw [q2] at H2
   have HF : Hid (r = false) := hd (by rw [← hr.out]; unfold procI; rw [q1, q2]; rfl)
   clear hr
   refine region_in _ (by kernel_rfl) (by kernel_rfl) (fun hne => ?_)
   repeat (first | go_big_quiet_step ((first
     | (go_at_call 204; exact H1.out _ _ _ _)
     | (go_at_call 268; exact H2.out _)
     | (go_at_call 269; exact H4.out _)
     | (go_at_call 270; exact H5.out _)
     | (go_at_call 271; exact H6.out _)
     | (go_at_call 272; exact H7.out _)
     | (go_at_call 273; exact H8.out _))) | rw [q1] | rw [q3])
   refine wpQuiet_nil ?_
   rintro _ ⟨y, rfl⟩
   go_wp2
   go_ret
   exact ⟨by rw [HF.out]; rfl, Bel.fin HBB.out _⟩
  ·rw [q2] at H2
   cases q3 : inB p.prog 0 ((u.progs.length : Int) - 1)
   ·skip
    have HF : Hid (r = false) := hd (by rw [← hr.out]; unfold procI; rw [q1, q2, q3]; rfl)
    clear hr
    refine region_in _ (by kernel_rfl) (by kernel_rfl) (fun hne => ?_)
    repeat (first | go_big_quiet_step ((first
      | (go_at_call 204; exact H1.out _ _ _ _)
      | (go_at_call 268; exact H2.out _)
      | (go_at_call 269; exact H4.out _)
      | (go_at_call 270; exact H5.out _)
      | (go_at_call 271; exact H6.out _)
      | (go_at_call 272; exact H7.out _)
      | (go_at_call 273; exact H8.out _))) | rw [q1] | rw [q3])
    refine wpQuiet_nil ?_
    rintro _ ⟨y, rfl⟩
    go_wp2
    go_ret
    exact ⟨by rw [HF.out]; rfl, Bel.fin HBB.out _⟩
   ·skip
    cases q4 : cpuB p.pc p.regs
    ·rw [q4] at H4
     have HF : Hid (r = false) := hd (by rw [← hr.out]; unfold procI; rw [q1, q2, q3, q4]; rfl)
     clear hr
     refine region_in _ (by kernel_rfl) (by kernel_rfl) (fun hne => ?_)
     repeat (first | go_big_quiet_step ((first
       | (go_at_call 204; exact H1.out _ _ _ _)
       | (go_at_call 268; exact H2.out _)
       | (go_at_call 269; exact H4.out _)
       | (go_at_call 270; exact H5.out _)
       | (go_at_call 271; exact H6.out _)
       | (go_at_call 272; exact H7.out _)
       | (go_at_call 273; exact H8.out _))) | rw [q1] | rw [q3])
     refine wpQuiet_nil ?_
     rintro _ ⟨y, rfl⟩
     go_wp2
     go_ret
     exact ⟨by rw [HF.out]; rfl, Bel.fin HBB.out _⟩
    ·rw [q4] at H4
     cases q5 : pagesB p.mem
     ·rw [q5] at H5
      have HF : Hid (r = false) := hd (by rw [← hr.out]; unfold procI; rw [q1, q2, q3, q4, q5]; rfl)
      clear hr
      refine region_in _ (by kernel_rfl) (by kernel_rfl) (fun hne => ?_)
      repeat (first | go_big_quiet_step ((first
        | (go_at_call 204; exact H1.out _ _ _ _)
        | (go_at_call 268; exact H2.out _)
        | (go_at_call 269; exact H4.out _)
        | (go_at_call 270; exact H5.out _)
        | (go_at_call 271; exact H6.out _)
        | (go_at_call 272; exact H7.out _)
        | (go_at_call 273; exact H8.out _))) | rw [q1] | rw [q3])
      refine wpQuiet_nil ?_
      rintro _ ⟨y, rfl⟩
      go_wp2
      go_ret
      exact ⟨by rw [HF.out]; rfl, Bel.fin HBB.out _⟩
     ·rw [q5] at H5
      cases q6 : fdsI u.opens p.fds
      ·rw [q6] at H6
       have HF : Hid (r = false) := hd (by rw [← hr.out]; unfold procI; rw [q1, q2, q3, q4, q5, q6]; rfl)
       clear hr
       refine region_in _ (by kernel_rfl) (by kernel_rfl) (fun hne => ?_)
       repeat (first | go_big_quiet_step ((first
         | (go_at_call 204; exact H1.out _ _ _ _)
         | (go_at_call 268; exact H2.out _)
         | (go_at_call 269; exact H4.out _)
         | (go_at_call 270; exact H5.out _)
         | (go_at_call 271; exact H6.out _)
         | (go_at_call 272; exact H7.out _)
         | (go_at_call 273; exact H8.out _))) | rw [q1] | rw [q3])
       refine wpQuiet_nil ?_
       rintro _ ⟨y, rfl⟩
       go_wp2
       go_ret
       exact ⟨by rw [HF.out]; rfl, Bel.fin HBB.out _⟩
      ·rw [q6] at H6
       cases q7 : tilB u p
       ·rw [q7] at H7
        have HF : Hid (r = false) := hd (by rw [← hr.out]; unfold procI; rw [q1, q2, q3, q4, q5, q6, q7]; rfl)
        clear hr
        refine region_in _ (by kernel_rfl) (by kernel_rfl) (fun hne => ?_)
        repeat (first | go_big_quiet_step ((first
          | (go_at_call 204; exact H1.out _ _ _ _)
          | (go_at_call 268; exact H2.out _)
          | (go_at_call 269; exact H4.out _)
          | (go_at_call 270; exact H5.out _)
          | (go_at_call 271; exact H6.out _)
          | (go_at_call 272; exact H7.out _)
          | (go_at_call 273; exact H8.out _))) | rw [q1] | rw [q3])
        refine wpQuiet_nil ?_
        rintro _ ⟨y, rfl⟩
        go_wp2
        go_ret
        exact ⟨by rw [HF.out]; rfl, Bel.fin HBB.out _⟩
       ·rw [q7] at H7
        have HF : Hid (r = leftB p) := hd (by rw [← hr.out]; unfold procI; rw [q1, q2, q3, q4, q5, q6, q7]; rfl)
        obtain ⟨q8, hq8⟩ : ∃ q8, leftB p = q8 := ⟨_, rfl⟩
        rw [hq8] at HF H8
        clear hr hq8
        refine region_in _ (by kernel_rfl) (by kernel_rfl) (fun hne => ?_)
        repeat (first | go_big_quiet_step ((first
          | (go_at_call 204; exact H1.out _ _ _ _)
          | (go_at_call 268; exact H2.out _)
          | (go_at_call 269; exact H4.out _)
          | (go_at_call 270; exact H5.out _)
          | (go_at_call 271; exact H6.out _)
          | (go_at_call 272; exact H7.out _)
          | (go_at_call 273; exact H8.out _))) | rw [q1] | rw [q3])
        refine wpQuiet_nil ?_
        rintro _ ⟨y, rfl⟩
        go_wp2
        go_ret
        exact ⟨by rw [HF.out]; rfl, Bel.fin HBB.out _⟩

end Go.Proofs.YtoeolfegmklbaaaGreat.ImG

namespace Go.Proofs.YtoeolfegmklbaaaGreat.MpB
open Go.RowKit Go.Deep Num InsC InsO ProgC IntC RowC PrgL UnC PlcM BootA SpC SpD ImA ImB ImC ImD ImE CpuI CpuS Bel SpA MpA
open Go.Maps (Keyed int_keyed keyOf_int_mk)
set_option maxRecDepth 100000
set_option linter.unusedVariables false
set_option linter.unusedSimpArgs false

theorem wpList_next_map (w : World) {ops : Array Oper} {rest : List Oper} {o : Oper} {a : Act} {Q : Exit → Act → World → Prop} (hg : o.guard = none) (it : Operand) (hop : o.op = Op.next it false) (W : World) (M r n : Nat) (l : List Pr) (gs : List Nat) (D : DataW Unit) (left : Lit → Bool) (cnt : Nat)
  (hM : MapR W M l gs D) (hit : a.eval it = .pointer (some ⟨r, 0, none⟩)) (h : w.ranges Tryz.prog 3 ptrElem M r n D left cnt)
  (hDone : cnt = 0 → (∀ kl, left kl = false) → wpList Tryz.prog ops Q rest (a.put o.dst (.tuple #[.bool false])) w)
  (hMore : ∀ (i : Nat) (p : Pr) (g : Nat) (w' : World) (cnt' : Nat), l[i]? = some p → gs[i]? = some g → left (key p.pid) = true → w'.ranges Tryz.prog 3 ptrElem M r n D (fun z => left z && !z.sameKey (key p.pid)) cnt' → cnt' < cnt → w.grownBy w' (some r) → w'.heap.size = w.heap.size →
   (Instr.entry (.pointer (some ⟨r, 0, none⟩))).run Tryz.prog w' = .ok (.tuple #[.int .i64 p.pid, .pointer (some ⟨g, 0, none⟩)]) w' → wpList Tryz.prog ops Q rest (a.put o.dst (.tuple #[.bool true, .int .i64 p.pid, .pointer (some ⟨g, 0, none⟩)])) w') :
  wpList Tryz.prog ops Q (o :: rest) a w := by
 refine wpList_next_ranges w hg it hop 3 law ptrElem (Value.int .i64) (fun b : Nat => .pointer (some ⟨b, 0, none⟩)) (fun k kl hk => ?_) (fun v y hv => ?_) M r n D left cnt hit h hDone ?_
 ·obtain ⟨x, rfl, _⟩ := Maps.keyOf_int_inv Tryz.underlying3 hk
  exact ⟨x, rfl⟩
 ·obtain ⟨b, rfl, _⟩ := ptrElem_inv hv
  exact ⟨b, rfl⟩
 ·intro x c kl y w' cnt' hkey hlk hv hat hrg hlt hgr hsz hen
  obtain ⟨x', ex, rfl, hwx⟩ := Maps.keyOf_int_inv Tryz.underlying3 hkey
  cases ex
  obtain ⟨b, eb, rfl⟩ := ptrElem_inv hv
  simp at eb
  subst eb
  have hh := Maps.has_true_of_atKey hat
  rw [hM.has x] at hh
  obtain ⟨k, hk⟩ := Option.isSome_iff_exists.1 hh
  obtain ⟨p, hp, rfl⟩ := plcN_some Pr.pid x l k hk
  have hkl := (List.getElem?_eq_some_iff.1 hp).1
  have hlen := hM.len
  have hgk : gs[k]? = some gs[k] := List.getElem?_eq_getElem (by omega)
  have e := (hM.at_ p.pid k gs[k] hk hgk .nil).symm.trans (hat .nil)
  simp at e
  have e' : gs[k] = c := by omega
  rw [e'] at hgk
  exact hMore k p c w' cnt' hp hgk hlk hrg hlt hgr hsz hen
theorem grown_of {V w : World} (h : Below V.heap.size V w) : V.grownBy w none := ⟨h.os, h.tape, h.output, h.size, fun k hk _ => h.block k hk⟩

end Go.Proofs.YtoeolfegmklbaaaGreat.MpB
