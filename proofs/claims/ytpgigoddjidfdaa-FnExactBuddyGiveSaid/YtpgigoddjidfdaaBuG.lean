/- Chapter 15, spec's side: BuddyOk. Condition: none. -/
import Derived.Test.YtpgigoddjidfdaaBuE
namespace Go.Proofs.Ytpgigoddjidfdaa.BuG
open Go.RowKit Go.Deep Num RowC TyA TyM TyB TyR TyF TyP TyT BuS BuC TyV BuD BuE
set_option maxRecDepth 100000
set_option linter.unusedVariables false
set_option linter.unusedSimpArgs false

/-- n frames from f on are covered, unless one is already. -/
def markL : List Bool → Nat → Nat → Option (List Bool)
  | s, _, 0 => some s
  | s, f, n + 1 => if s.getD f false then none else markL (s.set f true) (f + 1) n
/-- Is block i of order o right behind those that have covered s? -/
def inR (o : Nat) (f : Int) : Bool := decide (0 ≤ f) && (decide (f < 16) && decide (f % ((2 ^ o : Nat) : Int) = 0))
def rise (l : List Int) (i : Nat) (f : Int) : Bool := !(decide (0 < i) && decide (f ≤ l.getD (i - 1) 0))
def bud (o : Nat) (l : List Int) (f : Int) : Bool := decide (o < 4) && (decide (f % (2 * ((2 ^ o : Nat) : Int)) = 0) && hasB l (f + ((2 ^ o : Nat) : Int)))
def blkOk (s : List Bool) (o : Nat) (l : List Int) (i : Nat) (f : Int) : Option (List Bool) :=
  if inR o f && rise l i f then (markL s f.toNat (2 ^ o)).bind (fun s' => if bud o l f then none else some s') else none
def listOk (s : List Bool) (o : Nat) (l : List Int) : Nat → Option (List Bool)
  | 0 => some s
  | i + 1 => (listOk s o l i).bind (fun s' => blkOk s' o l i (l.getD i 0))
def heapOk (L : List (List Int)) : Nat → Option (List Bool)
  | 0 => some (List.replicate 16 false)
  | o + 1 => (heapOk L o).bind (fun s => listOk s o (L.getD o []) (L.getD o []).length)
def okB (L : List (List Int)) : Bool := decide (L.length = 5) && (heapOk L 5).isSome
theorem list_none {s : List Bool} {o : Nat} {l : List Int} {i : Nat} (h : listOk s o l i = none) : ∀ j, i ≤ j → listOk s o l j = none
  | 0, hj => by have : i = 0 := by omega
                subst this; exact h
  | j + 1, hj => by
    by_cases e : i = j + 1
    · subst e; exact h
    · have := list_none h j (by omega)
      unfold listOk
      rw [this]; rfl
theorem heap_none {L : List (List Int)} {o : Nat} (h : heapOk L o = none) : ∀ j, o ≤ j → heapOk L j = none
  | 0, hj => by have : o = 0 := by omega
                subst this; exact h
  | j + 1, hj => by
    by_cases e : o = j + 1
    · subst e; exact h
    · have := heap_none h j (by omega)
      unfold heapOk
      rw [this]; rfl
theorem ok_no {L : List (List Int)} {o i : Nat} {s0 s : List Bool} (h1 : heapOk L o = some s0) (h2 : listOk s0 o (L.getD o []) i = some s) (hi : i < (L.getD o []).length) (ho : o < 5) (h3 : blkOk s o (L.getD o []) i ((L.getD o []).getD i 0) = none) : okB L = false := by
  have h4 : listOk s0 o (L.getD o []) (i + 1) = none := by
    show (listOk s0 o (L.getD o []) i).bind _ = none
    rw [h2]; exact h3
  have h5 := list_none h4 (L.getD o []).length hi
  have h6 : heapOk L (o + 1) = none := by
    show (heapOk L o).bind _ = none
    rw [h1]; exact h5
  have h7 := heap_none h6 5 ho
  unfold okB
  rw [h7]
  simp
theorem mark_len : ∀ (n f : Nat) (s s' : List Bool), markL s f n = some s' → s'.length = s.length
  | 0, f, s, s', h => by unfold markL at h; simp at h; rw [h]
  | n + 1, f, s, s', h => by
    unfold markL at h
    split at h
    · simp at h
    · have := mark_len n (f + 1) _ s' h
      simpa using this
/-- The row of what is covered. -/
def InR (w : World) (m : Nat) (s : List Bool) : Prop := w.ownsRow 0 4 1 (.slice (some ⟨m, 0, none⟩) 16 16) 16 (s.map cB)
theorem InR.cell {w : World} {m : Nat} {s : List Bool} (h : InR w m s) (hs : s.length = 16) {k : Nat} (hk : k < 16) : w.cell? ⟨m, k, none⟩ = some (.bool (s.getD k false)) := by
  rw [h.cellAt k (by omega), List.getElem?_map, List.getElem?_eq_getElem (by omega), List.getD_eq_getElem?_getD, List.getElem?_eq_getElem (by omega)]
  rfl
theorem InR.set {w : World} {m : Nat} {s : List Bool} (h : InR w m s) (k : Nat) : InR (w.setCell ⟨m, k, none⟩ (.bool true)) m (s.set k true) := by
  have := (h.stored k (.bool true)).1
  unfold InR
  rw [List.map_set]
  exact this
theorem info_bool1 : (Try.prog.info? 4).map (fun i => (i.zero, i.size, i.bytes)) = some (some (.bool false), 1, 1) := by kernel_rfl
set_option maxHeartbeats 8000000 in
theorem ok_any (pv : Option Addr) (c : Nat) (L : List (List Int)) (bs : List Nat) (w : World) (hl : wS z_IntS L ≤ 1048576) (h : OIntSS w (.slice pv L.length c) L bs) :
    Calls Try.prog 12 #[.agg #[.slice pv L.length c]] w fun e w' => e = .returned (.bool (okB L)) ∧ Below w.heap.size w w' := by
  obtain ⟨r, hr⟩ : ∃ r, okB L = r := ⟨_, rfl⟩
  rw [hr]
  have HR := hd hr
  have hLl : L.length ≤ 1048576 := by unfold wS at hl; omega
  obtain ⟨W1, hW1⟩ : ∃ W1, w.alloc (.cells #[.slice pv L.length c] 26) = W1 := ⟨_, rfl⟩
  have hb1 : Below w.heap.size w W1 := by rw [← hW1]; exact (Below.refl _ _).alloc (Nat.le_refl _) _
  have e0 : W1.heap[w.heap.size]? = some (.cells #[.slice pv L.length c] 26 (0, 0)) := by rw [← hW1]; exact heap_at _ _ _ rfl
  have HR0 := hd (gv_IntSS.below h hb1)
  have HLL : Hid (∀ l ∈ L, l.length ≤ 1048576) := hd (fun l hl2 => by
    obtain ⟨i, hi⟩ := List.getElem?_of_mem hl2
    have := sumW_mem z_IntS L i l hi
    unfold wS at hl; unfold z_IntS at *; omega)
  have c0 : W1.cell? ⟨w.heap.size, 0, none⟩ = some (.slice pv L.length c) := by rw [cell_of_row W1 _ 0 _ _ (0, 0) e0]; rfl
  have hws : w.heap.size < W1.heap.size := (Array.getElem?_eq_some_iff.1 e0).1
  have HB1 := hd hb1
  replace hW1 := hd hW1
  clear hr h hb1 e0 hl
  by_cases h5 : L.length = 5
  · obtain ⟨i0, hi, hz0, hz1, hz2⟩ := info_parts info_bool1
    have hne5 : ((L.length : Int) != 5) = false := by simp; omega
    have hz : 0 < W1.heap.size := by omega
    go_enter Try.func12, Try.ntmps12
    rw [h5] at c0 hne5 ⊢
    have hle : W1.heap.size ≤ (w.alloc (.cells #[.slice pv 5 c] 26)).heap.size := by
      have := hW1.out
      rw [h5] at this
      rw [this]
      exact Nat.le_refl _
    go_wp2_with (at_make; refine wpList_make_full _ rfl _ _ 55 rfl W1.heap.size 4 i0 (.bool false) 1 Try.underlying55 hi hz0 hz1 .i64 .i64 _ _ 16 rfl rfl rfl rfl (by rw [hz2]; omega) (by unfold maxLen; omega) hle ?_)
    intro w1 hown0 hgrow
    have hW5 : w.alloc (.cells #[.slice pv 5 c] 26) = W1 := by rw [← hW1.out, h5]
    rw [hW5] at hgrow
    have hbel1 : Below W1.heap.size W1 w1 := (Below.refl _ _).grown hgrow (Nat.le_refl _) (by simp)
    have HIN : Hid (InR w1 (w.heap.size + 1) (List.replicate 16 false)) := hd (by
      have h0 := own_zero hown0
      rw [show (madeCells #[Value.bool false] 16).toList = (List.replicate 16 false).map cB by kernel_rfl] at h0
      exact h0)
    obtain ⟨m, hm⟩ : ∃ m, w.heap.size + 1 = m := ⟨_, rfl⟩
    have hmW : W1.heap.size ≤ m := by rw [← hm, ← hW5]; simp
    rw [hm] at HIN ⊢
    have HBL := hd hbel1
    have HL5 := hd h5
    clear hown0 hgrow hi hz0 hz1 hz2 hle hW5 hm hbel1 hW1
    go_wp2_with fail
    go_loopw [4] (fun ov wr => ∃ (o : Nat) (s0 : List Bool), o ≤ 5 ∧ ov = .int .i64 o ∧ s0.length = 16 ∧ Hid (heapOk L o = some s0) ∧ Hid (InR wr m s0) ∧ Hid (Below W1.heap.size W1 wr)) (fun ov _ => 5 - (intOf ov).toNat)
    case atStart => exact ⟨0, List.replicate 16 false, by omega, rfl, by simp, hd rfl, HIN, HBL⟩
    case round =>
      clear HIN HBL
      obtain ⟨o, s0, ho, rfl, hs0, HO, HIN, HBL⟩ := hrel
      by_cases hlt : o < 5
      · obtain ⟨l, hlo⟩ : ∃ l, L[o]? = some l := ⟨L[o]'(by omega), by simp⟩
        obtain ⟨g, rfl, hgW⟩ : ∃ g, pv = some ⟨g, 0, none⟩ ∧ g < W1.heap.size := by
          rcases HR0.out.cases with ⟨hh, h0, _⟩ | ⟨g, cap, hh, hg, _⟩
          · rw [h0] at hlo; simp at hlo
          · simp at hh; exact ⟨g, hh.1, hg⟩
        obtain ⟨u, bu, hcu, hou, hbu⟩ := Row.elem HR0.out hlo
        obtain ⟨pu, cu, rfl⟩ := gv_IntS.slice hou
        have hll : l.length ≤ 1048576 := HLL.out l (List.mem_of_getElem? hlo)
        have hgd : L.getD o [] = l := by rw [List.getD_eq_getElem?_getD, hlo]; rfl
        obtain ⟨n2, hn2⟩ : ∃ n2 : Nat, 2 ^ o = n2 := ⟨_, rfl⟩
        have hn0 : 0 < n2 := by rw [← hn2]; exact Nat.two_pow_pos o
        have hn16 : n2 ≤ 16 := by rw [← hn2]; rcases (by omega : o = 0 ∨ o = 1 ∨ o = 2 ∨ o = 3 ∨ o = 4) with rfl | rfl | rfl | rfl | rfl <;> decide
        have HLN := hd (fun X => l15Len_any o X (by omega))
        rw [hn2] at HLN
        have ho0 : (0 : Int) ≤ (o : Int) := by omega
        have ho5 : (o : Int) < 5 := by omega
        have HGD := hd hgd
        have HN2 := hd hn2
        have HCB := hd (fun (X : World) (hX : Below W1.heap.size W1 X) => (hX.cell (p := ⟨w.heap.size, 0, none⟩) hws).trans c0)
        have HCU := hd (fun (X : World) (hX : Below W1.heap.size W1 X) => (hX.cell (p := ⟨g, o, none⟩) hgW).trans hcu)
        have HCL : Hid (∀ (X : World), Below W1.heap.size W1 X → ∀ i f, l[i]? = some f → ∃ gl, pu = some ⟨gl, 0, none⟩ ∧ X.cell? ⟨gl, i, none⟩ = some (.int .i64 f)) := hd (fun X hX i f hf => by
          rcases so_cases hou with ⟨_, h0, _⟩ | ⟨gl, cap, hh, _, hg, _, hc⟩
          · rw [h0] at hf; simp at hf
          · simp at hh; exact ⟨gl, hh.1, (hX.cell (p := ⟨gl, i, none⟩) hg).trans (hc i f hf)⟩)
        have HHA := hd (fun (x : Int) X (hX : Below W1.heap.size W1 X) => l6Has_any _ l bu x X (gv_IntS.below hou hX) (by omega))
        have hne2 : (2 * (n2 : Int) == 0) = false := beq_eq_false_iff_ne.2 (by omega)
        have hn00 : ¬ n2 = 0 := by omega
        clear hlo hou hcu hgd hn2 c0
        have c1 := HCB.out wr HBL.out
        go_wp2_with (go_at_call 38; refine (HLN.out _).mono ?_; rintro e w_ ⟨rfl, rfl⟩)
        obtain ⟨wo, rfl⟩ : ∃ wo, wo = wr := ⟨_, rfl⟩
        go_loopw [6] (fun iv wq => ∃ (i : Nat) (s : List Bool), i ≤ l.length ∧ iv = .int .i64 i ∧ s.length = 16 ∧ Hid (listOk s0 o l i = some s) ∧ Hid (InR wq m s) ∧ Hid (Below W1.heap.size W1 wq)) (fun iv _ => l.length - (intOf iv).toNat)
        case atStart => exact ⟨0, s0, Nat.zero_le _, rfl, hs0, hd rfl, HIN, HBL⟩
        case round =>
          clear HIN HBL
          obtain ⟨i, s, hi, rfl, hs, HLI, HIN, HBL⟩ := hrel
          have cB := HCB.out wr HBL.out
          have cU := HCU.out wr HBL.out
          by_cases hil : i < l.length
          · obtain ⟨f, hf⟩ : ∃ f, l[i]? = some f := ⟨l[i], by simp [hil]⟩
            obtain ⟨gl, rfl, cf⟩ := HCL.out wr HBL.out i f hf
            have hi0 : (0 : Int) ≤ (i : Int) := by omega
            have hi1 : (i : Int) < (l.length : Int) := by omega
            have HFD : Hid (l.getD i 0 = f) := hd (by rw [List.getD_eq_getElem?_getD, hf]; rfl)
            have HNO : Hid (blkOk s o l i f = none → Hid (r = false)) := hd (fun h => hd (by
              rw [← HR.out]
              exact ok_no HO.out (by rw [HGD.out]; exact HLI.out) (by rw [HGD.out]; exact hil) hlt (by rw [HGD.out, HFD.out]; exact h)))
            by_cases hf0 : f < 0
            · have d1 : decide (f < 0) = true := decide_eq_true hf0
              have HE : Hid (r = false) := HNO.out (by unfold blkOk inR; simp [show ¬ (0 ≤ f) by omega])
              go_wp2_with fail
              go_ret
              exact ⟨by rw [HE.out]; rfl, HB1.out.trans (HBL.out.mono HB1.out.size)⟩
            · by_cases hf16 : 16 ≤ f
              · have d1 : decide (f < 0) = false := decide_eq_false hf0
                have d2 : decide ((16 : Int) ≤ f) = true := decide_eq_true hf16
                have HE : Hid (r = false) := HNO.out (by unfold blkOk inR; simp [show ¬ (f < 16) by omega])
                go_wp2_with fail
                go_ret
                exact ⟨by rw [HE.out]; rfl, HB1.out.trans (HBL.out.mono HB1.out.size)⟩
              · obtain ⟨fn, rfl⟩ : ∃ fn : Nat, f = fn := ⟨f.toNat, by omega⟩
                have hfn : fn < 16 := by omega
                have d1 : decide ((fn : Int) < 0) = false := decide_eq_false hf0
                have d2 : decide ((16 : Int) ≤ (fn : Int)) = false := decide_eq_false hf16
                have htm : (fn : Int).tmod (n2 : Int) = (fn : Int) % (n2 : Int) := Int.tmod_eq_emod_of_nonneg (by omega)
                have htm2 : (fn : Int).tmod (2 * (n2 : Int)) = (fn : Int) % (2 * (n2 : Int)) := Int.tmod_eq_emod_of_nonneg (by omega)
                have HNN := HN2
                by_cases hfm : (fn : Int) % (n2 : Int) = 0
                · have d3 : ((fn : Int) % (n2 : Int) != 0) = false := by simpa using hfm
                  have HIR : Hid (inR o (fn : Int) = true) := hd (by unfold inR; rw [HN2.out]; simp [hfm]; omega)
                  have hfn16 : fn + n2 ≤ 16 := by
                    have h1 := HN2.out
                    rcases (by omega : o = 0 ∨ o = 1 ∨ o = 2 ∨ o = 3 ∨ o = 4) with rfl | rfl | rfl | rfl | rfl <;> simp at h1 <;> subst h1 <;> omega
                  clear hf
                  by_cases hip : 0 < i
                  · obtain ⟨ip, hipe⟩ : ∃ ip : Nat, (i : Int) - 1 = (ip : Int) := ⟨i - 1, by omega⟩
                    obtain ⟨q, hq⟩ : ∃ q, l[ip]? = some q := ⟨l[ip]'(by omega), by simp⟩
                    obtain ⟨gl', hgl', cq⟩ := HCL.out wr HBL.out ip q hq
                    obtain rfl : gl = gl' := by simpa using hgl'
                    have dip : decide ((0 : Int) < (i : Int)) = true := decide_eq_true (by omega)
                    have hip1 : (0 : Int) ≤ (ip : Int) := by omega
                    have hip2 : (ip : Int) < (l.length : Int) := by omega
                    have hpe : l.getD (i - 1) 0 = q := by rw [show i - 1 = ip by omega, List.getD_eq_getElem?_getD, hq]; rfl
                    clear hgl' hq
                    by_cases hqf : (fn : Int) ≤ q
                    · have dq : decide ((fn : Int) ≤ q) = true := decide_eq_true hqf
                      have HE : Hid (r = false) := HNO.out (by unfold blkOk rise; rw [hpe]; simp [hip, hqf])
                      go_wp2_with fail
                      go_ret
                      exact ⟨by rw [HE.out]; rfl, HB1.out.trans (HBL.out.mono HB1.out.size)⟩
                    · have dq : decide ((fn : Int) ≤ q) = false := decide_eq_false hqf
                      have HRI : Hid (rise l i (fn : Int) = true) := hd (by unfold rise; rw [hpe]; simp [hqf])
                      clear hpe
                      have hir := HIR.out
                      go_wp2_with fail
                      obtain ⟨wo, rfl⟩ : ∃ wo, wo = wr := ⟨_, rfl⟩
                      go_loopw [8] (fun kv wz => ∃ (k : Nat) (s' : List Bool), fn ≤ k ∧ k ≤ fn + n2 ∧ kv = .int .i64 k ∧ s'.length = 16 ∧ Hid (markL s' k (fn + n2 - k) = markL s fn n2) ∧ Hid (InR wz m s') ∧ Hid (Below W1.heap.size W1 wz)) (fun kv _ => fn + n2 - (intOf kv).toNat)
                      case atStart => exact ⟨fn, s, Nat.le_refl _, by omega, rfl, hs, hd (by rw [show fn + n2 - fn = n2 by omega]), HIN, HBL⟩
                      case round =>
                        clear HIN HBL
                        obtain ⟨k, s', hk0, hk1, rfl, hs', HMK, HIN, HBL⟩ := hrel
                        by_cases hkl : k < fn + n2
                        · have hk16 : k < 16 := by omega
                          have ck := HIN.out.cell hs' hk16
                          have hkz : (0 : Int) ≤ (k : Int) := by omega
                          have hk16i : (k : Int) < 16 := by omega
                          have fk := (show wr.frozen? ⟨m, k, none⟩ = false from HIN.out.frozenAt k)
                          have hlt1 : (k : Int) < (fn : Int) + (n2 : Int) := by omega
                          cases hq : s'.getD k false with
                          | true =>
                            rw [hq] at ck
                            have HMN : Hid (markL s fn n2 = none) := hd (by
                              rw [← HMK.out, show fn + n2 - k = (fn + n2 - k - 1) + 1 by omega]
                              unfold markL
                              rw [if_pos hq])
                            have HE : Hid (r = false) := HNO.out (by unfold blkOk; rw [HIR.out, HRI.out, HNN.out, Int.toNat_natCast, HMN.out]; rfl)
                            go_wp2_with fail
                            go_ret
                            exact ⟨by rw [HE.out]; rfl, HB1.out.trans (HBL.out.mono HB1.out.size)⟩
                          | false =>
                            rw [hq] at ck
                            have HMK2 : Hid (markL (s'.set k true) (k + 1) (fn + n2 - (k + 1)) = markL s fn n2) := hd (by
                              rw [← HMK.out, show fn + n2 - k = (fn + n2 - (k + 1)) + 1 by omega]
                              conv => rhs; unfold markL
                              rw [if_neg (by rw [hq]; simp)])
                            have HIN2 := hd (HIN.out.set k)
                            have HBL2 := hd (HBL.out.setCell (p := ⟨m, k, none⟩) (by show W1.heap.size ≤ m; omega) (.bool true))
                            have hs2 : (s'.set k true).length = 16 := by simp [hs']
                            clear hq
                            go_wp2_with fail
                            go_roundw
                            case rel => exact ⟨k + 1, s'.set k true, by omega, by omega, by go_num, hs2, HMK2, HIN2, HBL2⟩
                            case measure => simp [intOf]; omega
                        · obtain rfl : k = fn + n2 := by omega
                          have HMK2 : markL s (fn : Int).toNat (2 ^ o) = some s' := by
                            rw [HN2.out, Int.toNat_natCast, ← HMK.out, show fn + n2 - (fn + n2) = 0 by omega]
                            rfl
                          have hnl : ¬ ((fn : Int) + (n2 : Int) < (fn : Int) + (n2 : Int)) := by omega
                          have cB := HCB.out wr HBL.out
                          have cU := HCU.out wr HBL.out
                          by_cases ho4 : o < 4
                          · have ho4i : decide ((o : Int) < 4) = true := decide_eq_true (by omega)
                            by_cases hmm : (fn : Int) % (2 * (n2 : Int)) = 0
                            · have hmb : ((fn : Int) % (2 * (n2 : Int)) == 0) = true := by simpa using hmm
                              have HHA3 := hd (HHA.out ((fn : Int) + (n2 : Int)) wr HBL.out)
                              cases hhb : hasB l ((fn : Int) + (n2 : Int)) with
                              | true =>
                                rw [hhb] at HHA3
                                have hbd : bud o l (fn : Int) = true := by unfold bud; rw [HN2.out, hhb]; simp [ho4, hmm]
                                have HE : Hid (r = false) := HNO.out (by unfold blkOk; rw [HIR.out, HRI.out, HMK2]; simp [hbd])
                                go_wp2_with (go_at_call 39; refine HHA3.out.mono ?_; rintro e w_ ⟨rfl, rfl⟩)
                                go_ret
                                exact ⟨by rw [HE.out]; rfl, HB1.out.trans (HBL.out.mono HB1.out.size)⟩
                              | false =>
                                rw [hhb] at HHA3
                                have hbd : bud o l (fn : Int) = false := by unfold bud; rw [HN2.out, hhb]; simp
                                go_wp2_with (go_at_call 39; refine HHA3.out.mono ?_; rintro e w_ ⟨rfl, rfl⟩)
                                have HLI2 : Hid (listOk s0 o l (i + 1) = some s') := hd (by
                                  show (listOk s0 o l i).bind _ = some s'
                                  rw [HLI.out]
                                  show blkOk s o l i (l.getD i 0) = some s'
                                  rw [HFD.out]
                                  unfold blkOk
                                  rw [HIR.out, HRI.out, HMK2]
                                  simp [hbd])
                                go_roundw
                                case rel => exact ⟨i + 1, s', by omega, by go_num, hs', HLI2, HIN, HBL⟩
                                case measure => simp [intOf]; omega
                            · have hmb : ((fn : Int) % (2 * (n2 : Int)) == 0) = false := by simpa using hmm
                              have hbd : bud o l (fn : Int) = false := by unfold bud; rw [HN2.out]; simp [hmm]
                              go_wp2_with fail
                              have HLI2 : Hid (listOk s0 o l (i + 1) = some s') := hd (by
                                show (listOk s0 o l i).bind _ = some s'
                                rw [HLI.out]
                                show blkOk s o l i (l.getD i 0) = some s'
                                rw [HFD.out]
                                unfold blkOk
                                rw [HIR.out, HRI.out, HMK2]
                                simp [hbd])
                              go_roundw
                              case rel => exact ⟨i + 1, s', by omega, by go_num, hs', HLI2, HIN, HBL⟩
                              case measure => simp [intOf]; omega
                          · have ho4i : decide ((o : Int) < 4) = false := decide_eq_false (by omega)
                            have hbd : bud o l (fn : Int) = false := by unfold bud; simp [ho4]
                            go_wp2_with fail
                            have HLI2 : Hid (listOk s0 o l (i + 1) = some s') := hd (by
                              show (listOk s0 o l i).bind _ = some s'
                              rw [HLI.out]
                              show blkOk s o l i (l.getD i 0) = some s'
                              rw [HFD.out]
                              unfold blkOk
                              rw [HIR.out, HRI.out, HMK2]
                              simp [hbd])
                            go_roundw
                            case rel => exact ⟨i + 1, s', by omega, by go_num, hs', HLI2, HIN, HBL⟩
                            case measure => simp [intOf]; omega
                  · have dip : decide ((0 : Int) < (i : Int)) = false := decide_eq_false (by omega)
                    have HRI : Hid (rise l i (fn : Int) = true) := hd (by unfold rise; simp [hip])
                    have hir := HIR.out
                    go_wp2_with fail
                    obtain ⟨wo, rfl⟩ : ∃ wo, wo = wr := ⟨_, rfl⟩
                    go_loopw [8] (fun kv wz => ∃ (k : Nat) (s' : List Bool), fn ≤ k ∧ k ≤ fn + n2 ∧ kv = .int .i64 k ∧ s'.length = 16 ∧ Hid (markL s' k (fn + n2 - k) = markL s fn n2) ∧ Hid (InR wz m s') ∧ Hid (Below W1.heap.size W1 wz)) (fun kv _ => fn + n2 - (intOf kv).toNat)
                    case atStart => exact ⟨fn, s, Nat.le_refl _, by omega, rfl, hs, hd (by rw [show fn + n2 - fn = n2 by omega]), HIN, HBL⟩
                    case round =>
                      clear HIN HBL
                      obtain ⟨k, s', hk0, hk1, rfl, hs', HMK, HIN, HBL⟩ := hrel
                      by_cases hkl : k < fn + n2
                      · have hk16 : k < 16 := by omega
                        have ck := HIN.out.cell hs' hk16
                        have hkz : (0 : Int) ≤ (k : Int) := by omega
                        have hk16i : (k : Int) < 16 := by omega
                        have fk := (show wr.frozen? ⟨m, k, none⟩ = false from HIN.out.frozenAt k)
                        have hlt1 : (k : Int) < (fn : Int) + (n2 : Int) := by omega
                        cases hq : s'.getD k false with
                        | true =>
                          rw [hq] at ck
                          have HMN : Hid (markL s fn n2 = none) := hd (by
                            rw [← HMK.out, show fn + n2 - k = (fn + n2 - k - 1) + 1 by omega]
                            unfold markL
                            rw [if_pos hq])
                          have HE : Hid (r = false) := HNO.out (by unfold blkOk; rw [HIR.out, HRI.out, HNN.out, Int.toNat_natCast, HMN.out]; rfl)
                          go_wp2_with fail
                          go_ret
                          exact ⟨by rw [HE.out]; rfl, HB1.out.trans (HBL.out.mono HB1.out.size)⟩
                        | false =>
                          rw [hq] at ck
                          have HMK2 : Hid (markL (s'.set k true) (k + 1) (fn + n2 - (k + 1)) = markL s fn n2) := hd (by
                            rw [← HMK.out, show fn + n2 - k = (fn + n2 - (k + 1)) + 1 by omega]
                            conv => rhs; unfold markL
                            rw [if_neg (by rw [hq]; simp)])
                          have HIN2 := hd (HIN.out.set k)
                          have HBL2 := hd (HBL.out.setCell (p := ⟨m, k, none⟩) (by show W1.heap.size ≤ m; omega) (.bool true))
                          have hs2 : (s'.set k true).length = 16 := by simp [hs']
                          clear hq
                          go_wp2_with fail
                          go_roundw
                          case rel => exact ⟨k + 1, s'.set k true, by omega, by omega, by go_num, hs2, HMK2, HIN2, HBL2⟩
                          case measure => simp [intOf]; omega
                      · obtain rfl : k = fn + n2 := by omega
                        have HMK2 : markL s (fn : Int).toNat (2 ^ o) = some s' := by
                          rw [HN2.out, Int.toNat_natCast, ← HMK.out, show fn + n2 - (fn + n2) = 0 by omega]
                          rfl
                        have hnl : ¬ ((fn : Int) + (n2 : Int) < (fn : Int) + (n2 : Int)) := by omega
                        have cB := HCB.out wr HBL.out
                        have cU := HCU.out wr HBL.out
                        by_cases ho4 : o < 4
                        · have ho4i : decide ((o : Int) < 4) = true := decide_eq_true (by omega)
                          by_cases hmm : (fn : Int) % (2 * (n2 : Int)) = 0
                          · have hmb : ((fn : Int) % (2 * (n2 : Int)) == 0) = true := by simpa using hmm
                            have HHA3 := hd (HHA.out ((fn : Int) + (n2 : Int)) wr HBL.out)
                            cases hhb : hasB l ((fn : Int) + (n2 : Int)) with
                            | true =>
                              rw [hhb] at HHA3
                              have hbd : bud o l (fn : Int) = true := by unfold bud; rw [HN2.out, hhb]; simp [ho4, hmm]
                              have HE : Hid (r = false) := HNO.out (by unfold blkOk; rw [HIR.out, HRI.out, HMK2]; simp [hbd])
                              go_wp2_with (go_at_call 39; refine HHA3.out.mono ?_; rintro e w_ ⟨rfl, rfl⟩)
                              go_ret
                              exact ⟨by rw [HE.out]; rfl, HB1.out.trans (HBL.out.mono HB1.out.size)⟩
                            | false =>
                              rw [hhb] at HHA3
                              have hbd : bud o l (fn : Int) = false := by unfold bud; rw [HN2.out, hhb]; simp
                              go_wp2_with (go_at_call 39; refine HHA3.out.mono ?_; rintro e w_ ⟨rfl, rfl⟩)
                              have HLI2 : Hid (listOk s0 o l (i + 1) = some s') := hd (by
                                show (listOk s0 o l i).bind _ = some s'
                                rw [HLI.out]
                                show blkOk s o l i (l.getD i 0) = some s'
                                rw [HFD.out]
                                unfold blkOk
                                rw [HIR.out, HRI.out, HMK2]
                                simp [hbd])
                              go_roundw
                              case rel => exact ⟨i + 1, s', by omega, by go_num, hs', HLI2, HIN, HBL⟩
                              case measure => simp [intOf]; omega
                          · have hmb : ((fn : Int) % (2 * (n2 : Int)) == 0) = false := by simpa using hmm
                            have hbd : bud o l (fn : Int) = false := by unfold bud; rw [HN2.out]; simp [hmm]
                            go_wp2_with fail
                            have HLI2 : Hid (listOk s0 o l (i + 1) = some s') := hd (by
                              show (listOk s0 o l i).bind _ = some s'
                              rw [HLI.out]
                              show blkOk s o l i (l.getD i 0) = some s'
                              rw [HFD.out]
                              unfold blkOk
                              rw [HIR.out, HRI.out, HMK2]
                              simp [hbd])
                            go_roundw
                            case rel => exact ⟨i + 1, s', by omega, by go_num, hs', HLI2, HIN, HBL⟩
                            case measure => simp [intOf]; omega
                        · have ho4i : decide ((o : Int) < 4) = false := decide_eq_false (by omega)
                          have hbd : bud o l (fn : Int) = false := by unfold bud; simp [ho4]
                          go_wp2_with fail
                          have HLI2 : Hid (listOk s0 o l (i + 1) = some s') := hd (by
                            show (listOk s0 o l i).bind _ = some s'
                            rw [HLI.out]
                            show blkOk s o l i (l.getD i 0) = some s'
                            rw [HFD.out]
                            unfold blkOk
                            rw [HIR.out, HRI.out, HMK2]
                            simp [hbd])
                          go_roundw
                          case rel => exact ⟨i + 1, s', by omega, by go_num, hs', HLI2, HIN, HBL⟩
                          case measure => simp [intOf]; omega
                · have d3 : ((fn : Int) % (n2 : Int) != 0) = true := by simpa using hfm
                  have HE : Hid (r = false) := HNO.out (by unfold blkOk inR; rw [HN2.out]; simp [hfm])
                  go_wp2_with fail
                  go_ret
                  exact ⟨by rw [HE.out]; rfl, HB1.out.trans (HBL.out.mono HB1.out.size)⟩
          · obtain rfl : i = l.length := by omega
            have HO2 : Hid (heapOk L (o + 1) = some s) := hd (by
              show (heapOk L o).bind _ = some s
              rw [HO.out]
              show listOk s0 o (L.getD o []) (L.getD o []).length = some s
              rw [HGD.out]; exact HLI.out)
            go_wp2_with fail
            go_roundw
            case rel => exact ⟨o + 1, s, by omega, by go_num, hs, HO2, HIN, HBL⟩
            case measure => simp [intOf]; omega
      · obtain rfl : o = 5 := by omega
        have HE : Hid (r = true) := hd (by rw [← HR.out]; unfold okB; rw [HO.out, HL5.out]; rfl)
        go_wp2_with fail
        go_ret
        exact ⟨by rw [HE.out]; rfl, HB1.out.trans (HBL.out.mono HB1.out.size)⟩
  · have hne : ((L.length : Int) != 5) = true := by simp; omega
    have HE : Hid (r = false) := hd (by rw [← HR.out]; unfold okB; simp [h5])
    go_enter Try.func12, Try.ntmps12
    go_wp2_with fail
    go_ret
    exact ⟨by rw [HE.out]; rfl, by rw [← hW1.out] at HB1; exact HB1.out⟩
end Go.Proofs.Ytpgigoddjidfdaa.BuG
