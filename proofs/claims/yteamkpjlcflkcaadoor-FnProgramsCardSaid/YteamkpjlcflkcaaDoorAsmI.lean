/- What impl's Asm answers. Condition: the tables lie as the text lays them. -/
import Derived.Test.YteamkpjlcflkcaaDoorIterI
import Derived.Test.YteamkpjlcflkcaaDoorLineI
import Derived.Test.YteamkpjlcflkcaaDoorAsmD
namespace Go.Proofs.YteamkpjlcflkcaaDoor.AsmI
open Go.RowKit Go.Shelf Go.Deep Num InsC InsO ProgC ProgD ReadC AsmM AsmC AsmD SplM FormT IterI
attribute [local go_sem] Oper.semAt_some
set_option linter.unusedVariables false
set_option linter.unusedSimpArgs false


/-- What is assembled of the lines that have come. -/
noncomputable def got (pre : List NL) : List Q × Nat × Nat := asmF (pre.map cl)
theorem got_nil : got [] = ([], 0, 0) := rfl
theorem got_snoc (pre : List NL) (x : NL) : got (pre ++ [x]) = astep (got pre) (cl x) := by unfold got; rw [List.map_append, List.map_cons, List.map_nil, asm_snoc]
theorem keeps_below {W W' : World} (h : Below W.heap.size W W') : KeepsOthers W W' := ⟨h.size, fun k o hk _ => (h.block k (Array.getElem?_eq_some_iff.1 hk).1).trans hk⟩
theorem boxed_below {W W' : World} {B : Nat} {t : TypeId} {v : Value} (h : Boxed W B t v) (hb : Below W.heap.size W W') : Boxed W' B t v := (hb.block B h.lt).trans h
theorem slice_of {W : World} {B : Nat} {e : TypeId} {size n : Nat} {v : Value} {xs : List Value} (h : W.ownsRow B e size v n xs) : ∃ a c, v = .slice a n c := by
  rcases h.2 with ⟨rfl, h0⟩ | ⟨g, cap, cur, rfl, _⟩
  · exact ⟨none, 0, by rw [h0]⟩
  · exact ⟨_, _, rfl⟩

/-- What a line says, held against what its reading answers. -/
theorem post_cases (y : List UInt8) : (∃ q, line y = some q ∧ ∀ e, LinePost y e → e = .returned (.tuple #[ins q.o q.a q.b q.c, .bool true])) ∨
    (line y = none ∧ ∃ o a b c, ∀ e, LinePost y e → e = .returned (.tuple #[ins o a b c, .bool false])) := by
  cases hr : raw y with
  | none =>
    refine .inr ⟨line_none hr, 0, 0, 0, 0, ?_⟩
    rintro e (⟨q, h, _⟩ | ⟨_, rfl⟩)
    · rw [hr] at h; cases h
    · rfl
  | some q =>
    cases hk : Q.ok q
    · refine .inr ⟨line_bad hr hk, q.o, q.a, q.b, q.c, ?_⟩
      rintro e (⟨q', h, rfl⟩ | ⟨h, _⟩)
      · rw [hr] at h; cases h; rw [hk]
      · rw [hr] at h; cases h
    · refine .inl ⟨q, line_good hr hk, ?_⟩
      rintro e (⟨q', h, rfl⟩ | ⟨h, _⟩)
      · rw [hr] at h; cases h; rw [hk]
      · rw [hr] at h; cases h
/-- 'p = append(p, i)' of instructions, within a round. -/
theorem wpListIn_append_ins {F : Fence} {nF : Nat} {w : World} {ops : Array Oper} {rest : List Oper} {o : Oper} {a : Act} {Q' : Exit → Act → World → Prop} (hgd : o.guard = none) (s x : Operand)
    (ho : o.op = .call { callee := .builtin .append, args := #[s, x], argTypes := #[24, 24] }) (B : Nat) (v : Value) (l : List Q) (hs : a.eval s = v)
    (hown : w.ownsRow B 44 4 v l.length (flat l)) (g : Nat) (y : Q) (hx : a.eval x = .slice (some ⟨g, 0, none⟩) 1 1)
    (hc : ∀ j u, y.cells[j]? = some u → w.cell? ⟨g, j, none⟩ = some u) (hlen : l.length + 1 ≤ 1048576) (hbase : B ≤ w.heap.size)
    (h : ∀ g' cap' w', w'.ownsRow B 44 4 (.slice (some ⟨g', 0, none⟩) (l.length + 1) cap') (l ++ [y]).length (flat (l ++ [y])) → w.grownBy w' v.ownBlock → wpListIn F nF Tryd.prog ops Q' rest (a.put o.dst (.slice (some ⟨g', 0, none⟩) (l.length + 1) cap')) w') : wpListIn F nF Tryd.prog ops Q' (o :: rest) a w := by
  obtain ⟨i0, hi, hz0, hz1, hz2⟩ := info_parts infoIns
  refine wpListIn_append_own w hgd s x 24 ho B 44 i0 (ins 0 0 0 0) 4 32 Tryd.underlying24 hi hz0 hz1 hz2 rfl (by decide) v l.length (flat l) hs hown ⟨g, 0, none⟩ 1 1 y.cells hx rfl ?_ ?_ (by unfold maxLen; omega) (by omega) hbase ?_
  · intro j u hj
    have ha : (⟨g, 0, none⟩ : Addr).add j = ⟨g, j, none⟩ := by unfold Addr.add; split <;> simp_all
    rw [ha]; exact hc j u hj
  · intro u hu
    simp [Q.cells] at hu
    rcases hu with rfl | rfl | rfl | rfl <;> rfl
  · intro v' w' h1 h2 _
    obtain ⟨g', cap', rfl⟩ := ownsRow_succ h1
    refine h g' cap' w' ?_ h2
    rw [List.length_append, show flat (l ++ [y]) = flat l ++ y.cells by simp [flat]]; exact h1

set_option maxRecDepth 100000 in
set_option maxHeartbeats 2000000 in
theorem impl_any (s : ByteArray) (w : World) (ht : Tab w) (hs : s.size ≤ 1048576) :
    Calls Tryd.prog 10 #[.string s] w fun e w' => AsmPost s.data.toList w e w' ∧ Below w.heap.size w w' := by
  refine (callsIn_wide (n := 4)).1 ?_
  have hlsm : ∀ x ∈ lines s.data.toList, x.length ≤ 1048576 := fun x hx => Nat.le_trans (lines_small s.data.toList x hx) (by simpa using hs)
  have HT := hd ht
  have hgm : 1 < w.heap.size := by obtain ⟨m, hm⟩ := ht.most; exact World.block_lt_of_cell? w _ hm
  clear ht
  have HLN := hd hlsm
  refine callsIn_of_wp_marks Tryd.func10 rfl trivial ?_ rfl
  simp only [Tryd.ntmps10, List.size_toArray, List.length_cons, List.length_nil, Nat.reduceAdd, Nat.reduceSub, Array.replicate_succ, Array.replicate_zero, List.push_toArray, List.append_toArray, List.nil_append, List.cons_append]
  gi_wp2_with (refine ⟨trivial, ?_⟩; gi_at_call 27; refine (callsIn_wide.2 (lines_any s _)).mono ?_; rintro e w' ⟨rfl, rfl⟩)
  obtain ⟨W0, hW0⟩ : ∃ W0, (((w.alloc (.cells #[.slice none 0 0] 24)).alloc (.cells #[.int .i64 0] 3)).alloc (.cells #[.slice none 0 0] 24)).alloc (.cells #[.string s] 9) = W0 := ⟨_, rfl⟩
  have bR : Boxed W0 w.heap.size 24 (.slice none 0 0) := by rw [← hW0]; exact (((Boxed.new w _ _).alloc _).alloc _).alloc _
  have bN : Boxed W0 (w.heap.size + 1) 3 (.int .i64 0) := by
    rw [← hW0]; have := ((Boxed.new (w.alloc (.cells #[.slice none 0 0] 24)) 3 (.int .i64 0)).alloc (.cells #[.slice none 0 0] 24)).alloc (.cells #[.string s] 9)
    simpa using this
  have bP : Boxed W0 (w.heap.size + 1 + 1) 24 (.slice none 0 0) := by
    rw [← hW0]; have := (Boxed.new ((w.alloc (.cells #[.slice none 0 0] 24)).alloc (.cells #[.int .i64 0] 3)) 24 (.slice none 0 0)).alloc (.cells #[.string s] 9)
    simpa using this
  have bT : Boxed W0 (w.heap.size + 1 + 1 + 1) 9 (.string s) := by
    rw [← hW0]; have := Boxed.new (((w.alloc (.cells #[.slice none 0 0] 24)).alloc (.cells #[.int .i64 0] 3)).alloc (.cells #[.slice none 0 0] 24)) 9 (.string s)
    simpa using this
  have hsz : W0.heap.size = w.heap.size + 4 := by rw [← hW0]; simp
  have hB0 : Below w.heap.size w W0 := by
    rw [← hW0]; exact ((((Below.refl _ w).alloc (Nat.le_refl _) _).alloc (by simp) _).alloc (by simp; omega) _).alloc (by simp; omega) _
  rw [hW0]
  clear hW0
  have hmost := (HT.out.below hB0).most
  have hstr : W0.cell? ⟨w.heap.size + 1 + 1 + 1, 0, none⟩ = some (.string ⟨s.data.toList.toArray⟩) := by have := bT.cell; simpa using this
  refine wpIn_rangeFunc_ownF rfl (by omega) (gf := 49) (lb := #[.pointer (some ⟨w.heap.size + 1 + 1 + 1, 0, none⟩)]) rfl trivial (enters_of Tryd.func49 (by kernel_rfl) rfl)
    (lines_stops (4 - 1) (by omega) (w.heap.size + 1 + 1 + 1) w.heap.size s.data.toList (by simpa using hs) hlsm W0 (by omega) (by omega) hgm hstr hmost) belowK_t (belowK_b (by omega)) (Below.refl _ _) (fun _ => rfl)
    (fun pre W => (∃ v, Boxed W (w.heap.size + 1 + 1) 24 v ∧ W.ownsRow w.heap.size 44 4 v (got pre).1.length (flat (got pre).1) ∧ ((got pre).2.1 = 0 ∧ (got pre).2.2 = pre.length)) ∧ (Boxed W w.heap.size 24 (.slice none 0 0) ∧ Boxed W (w.heap.size + 1) 3 (.int .i64 0)) ∧ Below w.heap.size w W)
    (fun c pre W => (c = .ret ∧ ∃ x qs, pre.getLast? = some x ∧ got pre = (qs, pre.length, pre.length) ∧ Boxed W w.heap.size 24 (.slice none 0 0) ∧ Boxed W (w.heap.size + 1) 3 (.int .i64 x.1)) ∧ Below w.heap.size w W)
    (OwnFrom.and (Own.from (holdsRow_own w.heap.size (w.heap.size + 1 + 1) 24 44 4 (fun pre => (got pre).1.length) (fun pre => flat (got pre).1) (fun pre _ => (got pre).2.1 = 0 ∧ (got pre).2.2 = pre.length)) _)
      (OwnFrom.and (OwnFrom.and (Own.from (boxed_own _ _ (fun _ => .slice none 0 0)) _) (Own.from (boxed_own _ _ (fun _ => .int .i64 0)) _)) (ownFrom_below (Nat.le_refl _) (by omega))))
    (fun c => OwnFrom.and (Own.from (by
      rintro pre A B row ⟨rfl, x, qs, h1, h2, h3, h4⟩ hg hr
      exact ⟨rfl, x, qs, h1, h2, boxed_own _ _ (fun _ : Unit => .slice none 0 0) () A B row h3 hg hr, boxed_own _ _ (fun _ : Unit => .int .i64 x.1) () A B row h4 hg hr⟩) _) (ownFrom_below (Nat.le_refl _) (by omega)))
    ⟨⟨_, bP, by rw [got_nil]; exact World.ownsRow_nil _ _ _ _, by rw [got_nil], by rw [got_nil]; rfl⟩, ⟨bR, bN⟩, hB0⟩
    (fun x => { tmps := #[.string s, undef, .pointer (some ⟨w.heap.size, 0, none⟩), .pointer (some ⟨w.heap.size + 1, 0, none⟩), .pointer (some ⟨w.heap.size + 1 + 1, 0, none⟩), .int .i64 x.1, .string ⟨(cl x).toArray⟩, undef, undef, .string s, .func (.func 49) #[] #[.pointer (some ⟨w.heap.size + 1 + 1 + 1, 0, none⟩)], .int .i64 x.1, .string ⟨(cl x).toArray⟩, undef, undef, undef, undef, undef, undef, undef, undef, undef, undef, undef, undef, undef, undef, undef, undef, undef, undef, undef, undef], defers := [] }) ?assign ?body ?done ?stop
  case assign =>
    intro l x W K hK
    unfold encs
    gi_wp2
    exact hK
  case body =>
    rintro l pre x W ⟨⟨v, hv, hrow, hg0, hgn⟩, ⟨hbR, hbN⟩, hB⟩ hlt
    obtain ⟨a, c, rfl⟩ := slice_of hrow
    have hq40 : (got pre).1.length ≤ 40 := (asmF_le (pre.map cl)).1
    have hgs := got_snoc pre x
    have hge : got pre = ((got pre).1, 0, pre.length) := by rw [← hg0, ← hgn]
    generalize hqs : (got pre).1 = qs at *
    rw [hge] at hgs
    have hxl : (cl x).length ≤ 1048576 := by unfold cl; simp; omega
    generalize hy : cl x = y at *
    generalize hm : x.1 = m at *
    have HM := hd hm
    replace hgs := hd hgs
    clear hge hg0 hgn hy hm
    by_cases hye : y = []
    · subst hye
      have HG : Hid (got (pre ++ [x]) = (qs, 0, pre.length + 1)) := hd (by rw [hgs.out]; simp [astep])
      gi_wp2
      exact ⟨KeepsOthers.refl _, Below.refl _ _, ⟨_, hv, by rw [HG.out]; exact hrow, by rw [HG.out], by rw [HG.out]; simp⟩, ⟨hbR, hbN⟩, hB⟩
    · have hte : y.isEmpty = false := by simpa using hye
      have hli := LineI.line_any ⟨y.toArray⟩ W (HT.out.below hB) (by show y.toArray.size ≤ _; simpa using hxl) (by simpa using hye)
      rw [show (⟨y.toArray⟩ : ByteArray).data.toList = y by simp] at hli
      have hbs := hB.size
      rcases post_cases y with ⟨q, hq, he⟩ | ⟨hq, o, a', b, c', he⟩
      · have hli2 := hd (hli.mono (R' := fun e w' => e = .returned (.tuple #[ins q.o q.a q.b q.c, .bool true]) ∧ Below W.heap.size W w') (fun e w' h => ⟨he e h.1, h.2⟩))
        clear hli he
        obtain ⟨o, a', b, c'⟩ := q
        simp only at hli2
        by_cases h40 : qs.length = 40
        · have HG : Hid (got (pre ++ [x]) = ([], pre.length + 1, pre.length + 1)) := hd (by rw [hgs.out]; simp [astep, hye, h40])
          have h40' : ((qs.length : Int) == 40) = true := by simp; omega
          clear h40 hgs hq
          gi_wp2_with (refine ⟨trivial, ?_⟩; gi_at_call 28; refine (CallsIn.inRound l (callsIn_wide.2 hli2.out)).mono ?_; rintro e w1 ⟨rfl, hb1⟩; have hv1 := (boxed_below hv hb1).alloc (.cells #[.int .i64 o, .int .i64 a', .int .i64 b, .int .i64 c'] 44); have hR1 := (boxed_below hbR hb1).alloc (.cells #[.int .i64 o, .int .i64 a', .int .i64 b, .int .i64 c'] 44); have hN1 := (boxed_below hbN hb1).alloc (.cells #[.int .i64 o, .int .i64 a', .int .i64 b, .int .i64 c'] 44); have v1 := hv1.cell; have v2 := hv1.frozen; have r1 := hR1.cell; have r2 := hR1.frozen; have n1 := hN1.cell; have n2 := hN1.frozen)
          have hb1s := hb1.size
          have hbe : Below w.heap.size w (((w1.alloc (.cells #[.int .i64 o, .int .i64 a', .int .i64 b, .int .i64 c'] 44)).setCell ⟨w.heap.size, 0, none⟩ (.slice none 0 0)).setCell ⟨w.heap.size + 1, 0, none⟩ (.int .i64 m)) :=
            (((hB.trans (hb1.mono hbs)).alloc (by omega) _).setCell (p := ⟨w.heap.size, 0, none⟩) (Nat.le_refl _) _).setCell (p := ⟨w.heap.size + 1, 0, none⟩) (by simp) _
          exact ⟨(((keeps_below hb1).trans (KeepsOthers.alloc _ _)).trans (KeepsOthers.setCell _ _ _)).trans (KeepsOthers.setCell _ _ _), ⟨rfl, x, [], by simp, by rw [HG.out]; simp, (hR1.set _).other (by omega) _, by rw [HM.out]; exact (hN1.other (by omega) _).set _⟩, hbe⟩
        · have HG : Hid (got (pre ++ [x]) = (qs ++ [⟨o, a', b, c'⟩], 0, pre.length + 1)) := hd (by rw [hgs.out]; simp [astep, hye, hq]; omega)
          have h40' : ((qs.length : Int) == 40) = false := by simp; omega
          clear hgs hq
          gi_wp2_with (first
            | (refine ⟨trivial, ?_⟩; gi_at_call 28; refine (CallsIn.inRound l (callsIn_wide.2 hli2.out)).mono ?_; rintro e w1 ⟨rfl, hb1⟩; have hv1 := (boxed_below hv hb1).alloc (.cells #[.int .i64 o, .int .i64 a', .int .i64 b, .int .i64 c'] 44); have hR1 := (boxed_below hbR hb1).alloc (.cells #[.int .i64 o, .int .i64 a', .int .i64 b, .int .i64 c'] 44); have hN1 := (boxed_below hbN hb1).alloc (.cells #[.int .i64 o, .int .i64 a', .int .i64 b, .int .i64 c'] 44); have v1 := hv1.cell; have v2 := hv1.frozen; have hrow2 := (own_below hrow hb1).alloc (.cells #[.int .i64 o, .int .i64 a', .int .i64 b, .int .i64 c'] 44); have hb1s := hb1.size; have HC : Hid (∀ j u, (Q.mk o a' b c').cells[j]? = some u → ((w1.alloc (.cells #[.int .i64 o, .int .i64 a', .int .i64 b, .int .i64 c'] 44)).alloc (.cells #[.int .i64 o, .int .i64 a', .int .i64 b, .int .i64 c'] 44)).cell? ⟨w1.heap.size + 1, j, none⟩ = some u) := hd (fun j u hj => by have := cells_new (w1.alloc (.cells #[.int .i64 o, .int .i64 a', .int .i64 b, .int .i64 c'] 44)) o a' b c' j u hj; simpa using this))
            | (gi_at_builtin; refine wpListIn_append_ins rfl _ _ rfl w.heap.size _ qs rfl (hrow2.alloc (.cells #[.int .i64 o, .int .i64 a', .int .i64 b, .int .i64 c'] 44)) (w1.heap.size + 1) ⟨o, a', b, c'⟩ rfl HC.out (by omega) (by simp; omega) ?_; intro g' cap' w2 hown' hgrow; obtain ⟨k1, k2, k3, k4, k5⟩ := hv1.appended (by decide) hrow2 (by simp; omega) (by omega) hown' hgrow; have u1 := k1.cell; have u2 := k1.frozen))
          have hW1 : Below w.heap.size W (w1.alloc (.cells #[.int .i64 o, .int .i64 a', .int .i64 b, .int .i64 c'] 44)) := (hb1.mono hbs).alloc (by omega) _
          exact ⟨((keeps_below hb1).trans (KeepsOthers.alloc _ _)).trans k4, hW1.trans k5, ⟨_, k2, by rw [HG.out]; exact k3, by rw [HG.out], by rw [HG.out]; simp⟩,
            ⟨((hR1.alloc _).kept hgrow (hR1.not_row (by decide) hrow2)).other (by omega) _, ((hN1.alloc _).kept hgrow (hN1.not_row (by decide) hrow2)).other (by omega) _⟩, hB.trans (hW1.trans k5)⟩
      · have hli2 := hd (hli.mono (R' := fun e w' => e = .returned (.tuple #[ins o a' b c', .bool false]) ∧ Below W.heap.size W w') (fun e w' h => ⟨he e h.1, h.2⟩))
        clear hli he
        · have HG : Hid (got (pre ++ [x]) = ([], pre.length + 1, pre.length + 1)) := hd (by rw [hgs.out]; simp [astep, hye, hq])
          clear hgs hq
          gi_wp2_with (refine ⟨trivial, ?_⟩; gi_at_call 28; refine (CallsIn.inRound l (callsIn_wide.2 hli2.out)).mono ?_; rintro e w1 ⟨rfl, hb1⟩; have hv1 := (boxed_below hv hb1).alloc (.cells #[.int .i64 o, .int .i64 a', .int .i64 b, .int .i64 c'] 44); have hR1 := (boxed_below hbR hb1).alloc (.cells #[.int .i64 o, .int .i64 a', .int .i64 b, .int .i64 c'] 44); have hN1 := (boxed_below hbN hb1).alloc (.cells #[.int .i64 o, .int .i64 a', .int .i64 b, .int .i64 c'] 44); have v1 := hv1.cell; have v2 := hv1.frozen; have r1 := hR1.cell; have r2 := hR1.frozen; have n1 := hN1.cell; have n2 := hN1.frozen)
          have hb1s := hb1.size
          have hbe : Below w.heap.size w (((w1.alloc (.cells #[.int .i64 o, .int .i64 a', .int .i64 b, .int .i64 c'] 44)).setCell ⟨w.heap.size, 0, none⟩ (.slice none 0 0)).setCell ⟨w.heap.size + 1, 0, none⟩ (.int .i64 m)) :=
            (((hB.trans (hb1.mono hbs)).alloc (by omega) _).setCell (p := ⟨w.heap.size, 0, none⟩) (Nat.le_refl _) _).setCell (p := ⟨w.heap.size + 1, 0, none⟩) (by simp) _
          exact ⟨(((keeps_below hb1).trans (KeepsOthers.alloc _ _)).trans (KeepsOthers.setCell _ _ _)).trans (KeepsOthers.setCell _ _ _), ⟨rfl, x, [], by simp, by rw [HG.out]; simp, (hR1.set _).other (by omega) _, by rw [HM.out]; exact (hN1.other (by omega) _).set _⟩, hbe⟩
  case done =>
    rintro D ys W hD rfl ⟨⟨v, hv, hrow, hg0, hgn⟩, ⟨hbR, hbN⟩, hB⟩ hK
    obtain ⟨a, c, rfl⟩ := slice_of hrow
    have hgot : got (nlF 0 (lines s.data.toList)) = asmF (lines s.data.toList) := by unfold got; rw [nl_cl _ HLN.out]
    rw [hgot] at hg0 hgn hrow hv
    have hasm : Hid (asm s.data.toList = ((asmF (lines s.data.toList)).1, 0)) := hd (by unfold asm; rw [hg0])
    generalize (asmF (lines s.data.toList)).1 = qs at *
    have v1 := hv.cell
    have r1 := hbR.cell
    have r2 := hbR.frozen
    have n1 := hbN.cell
    have n2 := hbN.frozen
    clear hg0 hgn hgot
    gi_wp2
    have hK' := ((KeepsOthers.setCell W ⟨w.heap.size, 0, none⟩ (.slice a qs.length c)).trans (KeepsOthers.setCell _ ⟨w.heap.size + 1, 0, none⟩ (.int .i64 0))).same D _ hK rfl
    have hR' : Boxed ((W.setCell ⟨w.heap.size, 0, none⟩ (.slice a qs.length c)).setCell ⟨w.heap.size + 1, 0, none⟩ (.int .i64 0)) w.heap.size 24 (.slice a qs.length c) := (hbR.set _).other (by omega) _
    have hN0 := hbN.other (B' := w.heap.size) (by omega) (.slice a qs.length c)
    have hN' : Boxed ((W.setCell ⟨w.heap.size, 0, none⟩ (.slice a qs.length c)).setCell ⟨w.heap.size + 1, 0, none⟩ (.int .i64 0)) (w.heap.size + 1) 3 (.int .i64 0) := hN0.set _
    have hr1 := hrow.kept (grownBy_setCell' W w.heap.size (.slice a qs.length c)) (.inr (hbR.not_row (by decide) hrow).symm)
    have hr2 := hr1.kept (grownBy_setCell' _ (w.heap.size + 1) (.int .i64 0)) (.inr (hN0.not_row (by decide) hr1).symm)
    refine ⟨by simp, .inl ⟨_, _, rfl, run_takeDeferred hK', ?_⟩⟩
    have hc2 := cell_kept hR'.cell (grownBy_putObj' _ D (.deferred none)) (fun r e => by cases e; exact ⟨_, hK', rfl⟩)
    have hc3 := cell_kept hN'.cell (grownBy_putObj' _ D (.deferred none)) (fun r e => by cases e; exact ⟨_, hK', rfl⟩)
    refine ⟨.tuple #[.slice a qs.length c, .int .i64 0], ?_, ⟨.slice a qs.length c, by rw [hasm.out]; rfl, by rw [hasm.out]; exact ownsRow_putObj hr2 _ hK' rfl⟩,
      ((hB.setCell (p := ⟨w.heap.size, 0, none⟩) (Nat.le_refl _) _).setCell (p := ⟨w.heap.size + 1, 0, none⟩) (by simp) _).trans (belowK_b (w := w) (Nat.le_refl _) _ D _ _ (by omega) hK' rfl rfl)⟩
    simp [results, Tryd.results10, go_sem, hc2, hc3]
  case stop =>
    rintro D c pre W hD hpre ⟨⟨rfl, x, qs, hx, hgot, hR', hN'⟩, hB⟩ hK
    have hx1 : x.1 = pre.length := by
      obtain ⟨ys, rfl⟩ := List.getLast?_eq_some_iff.1 hx
      obtain ⟨zs, hz⟩ := hpre
      have := nl_num (lines s.data.toList) 0 ys.length x (by rw [← hz]; simp)
      simp; omega
    have hpm : pre.map cl = (lines s.data.toList).take pre.length := by
      obtain ⟨zs, hz⟩ := hpre
      have := nl_cl _ HLN.out 0
      rw [← hz, List.map_append] at this
      rw [← this, List.take_left' (by simp)]
    have hp0 : pre ≠ [] := by rintro rfl; simp at hx
    have hpl : 0 < pre.length := List.length_pos_iff.2 hp0
    have hqs : qs = [] := by
      have := asmF_bad (pre.map cl) (by show (got pre).2.1 ≠ 0; rw [hgot]; simp only; omega)
      have h2 : (got pre).1 = [] := this
      rw [hgot] at h2; exact h2
    have hasm : Hid (asm s.data.toList = ([], pre.length)) := hd (by
      have := asm_of_stop (l := s.data.toList) (k := pre.length) (n := pre.length - 1) hpm (by
        show got pre = _
        rw [hgot, hqs, show pre.length - 1 + 1 = pre.length by omega])
      rw [this, show pre.length - 1 + 1 = pre.length by omega])
    clear hgot hqs hpm hpre hx
    rw [hx1] at hN'
    gi_wp2
    refine ⟨by simp, .inl ⟨_, _, rfl, run_takeDeferred hK, ?_⟩⟩
    have hc2 := cell_kept hR'.cell (grownBy_putObj' _ D (.deferred none)) (fun r e => by cases e; exact ⟨_, hK, rfl⟩)
    have hc3 := cell_kept hN'.cell (grownBy_putObj' _ D (.deferred none)) (fun r e => by cases e; exact ⟨_, hK, rfl⟩)
    refine ⟨.tuple #[.slice none 0 0, .int .i64 pre.length], ?_, ⟨.slice none 0 0, by rw [hasm.out], by rw [hasm.out]; exact World.ownsRow_nil _ _ _ _⟩,
      hB.trans (belowK_b (w := w) (Nat.le_refl _) W D _ _ (by omega) hK rfl rfl)⟩
    simp [results, Tryd.results10, go_sem, hc2, hc3]

end Go.Proofs.YteamkpjlcflkcaaDoor.AsmI
