/- Chapter 15, impl's side: BuddyTake. Condition: none. -/
import Derived.Test.YtpgigoddjidfdaaBuM
import Derived.Test.YtpgigoddjidfdaaBuK
namespace Go.Proofs.Ytpgigoddjidfdaa.BuO
open Go.RowKit Go.Deep Num RowC TyA TyM TyB TyR TyF TyP TyT BuS BuC TyV BuD BuE BuG BuH IpI BuJ BuK BuQ BuM
set_option maxRecDepth 100000
set_option linter.unusedVariables false
set_option linter.unusedSimpArgs false

theorem takeClo (a : Option Addr) (n c : Nat) (w : World) : Calls Try.prog 32 #[.slice a n c] w fun e w' => e = .returned (.bool (decide (0 < n))) ∧ w = w' := by
  obtain ⟨q, hq⟩ : ∃ q, decide (0 < n) = q := ⟨_, rfl⟩
  have HQ := hd hq
  rw [hq]
  clear hq
  go_enter Try.func32, Try.ntmps32
  go_wp2
  go_ret
  exact ⟨by rw [← HQ.out]; rfl, rfl⟩
def FoP (L : List (List Int)) (r : Int) : Prop := (fo L = L.length ∧ r = -1) ∨ ∃ (o : Nat) (l : List Int), o < 5 ∧ L[o]? = some l ∧ l ≠ [] ∧ fo L = o ∧ r = o
/-- The least order that has a block. -/
theorem idxTake (g c : Nat) (L : List (List Int)) (bs : List Nat) (w : World) (h5 : L.length = 5) (h : OIntSS w (.slice (some ⟨g, 0, none⟩) L.length c) L bs) :
    Calls Try.prog 31 #[.slice (some ⟨g, 0, none⟩) L.length c, .func (.func 32) #[] #[]] w fun e w' => ∃ r : Int, e = .returned (.int .i64 r) ∧ Hid (FoP L r) ∧ w = w' := by
  have HR := hd h
  have HL5 := hd h5
  clear h h5
  go_enter Try.func31, Try.ntmps31
  go_wp2_with fail
  go_loop [8] (fun i => ∃ k : Nat, k ≤ 5 ∧ i = .int .i64 k ∧ Hid (∀ j, j < k → L[j]? = some [])) (fun i => 5 - (intOf i).toNat)
  case atStart => exact ⟨0, Nat.zero_le _, rfl, hd (fun j hj => by omega)⟩
  case round =>
    obtain ⟨k, hk, rfl, hall⟩ := hrel
    by_cases hlt : k < 5
    · obtain ⟨l, hlo⟩ : ∃ l, L[k]? = some l := ⟨L[k]'(by have := HL5.out; omega), by simp⟩
      obtain ⟨u, bu, hcu, hou, hbu⟩ := Row.elem HR.out hlo
      obtain ⟨au, cu, rfl⟩ := gv_IntS.slice hou
      have HT := hd (takeClo au l.length cu w)
      have hk0 : (0 : Int) ≤ k := by omega
      have hk1 : (k : Int) < L.length := by have := HL5.out; omega
      have HLO := hd hlo
      clear hou hlo
      by_cases hl0 : l = []
      · subst hl0
        have HP : Hid (∀ j, j < k + 1 → L[j]? = some []) := hd (fun j hj => by
          rcases Nat.lt_or_ge j k with h1 | h1
          · exact hall.out j h1
          · obtain rfl : j = k := by omega
            exact HLO.out)
        go_wp2_with (go_at_call 32; refine HT.out.mono ?_; rintro e w1 ⟨rfl, rfl⟩)
        go_round
        case rel => exact ⟨k + 1, by omega, by go_num, HP⟩
        case measure => simp [intOf]; omega
      · have hlp : decide (0 < l.length) = true := by simp; exact List.length_pos_iff.2 hl0
        rw [hlp] at HT
        have HE : Hid (FoP L (k : Int)) := hd (.inr ⟨k, l, hlt, HLO.out, hl0, fo_at hall.out HLO.out hl0, rfl⟩)
        clear hlp hl0
        go_wp2_with (go_at_call 32; refine HT.out.mono ?_; rintro e w1 ⟨rfl, rfl⟩)
        go_ret
        exact ⟨k, rfl, HE, rfl⟩
    · obtain rfl : k = 5 := by omega
      have hk1 : ¬ (5 : Int) < (L.length : Int) := by have := HL5.out; omega
      have HE : Hid (FoP L (-1)) := hd (.inl ⟨fo_none hall.out HL5.out, rfl⟩)
      go_wp2
      go_ret
      exact ⟨-1, rfl, HE, rfl⟩
theorem HC.rebase {W2 X Y : World} {g c : Nat} {Lc : List (List Int)} {bs : List Nat} (h : HC W2 g c Lc bs X) (hb : Below X.heap.size X Y) : ∃ bs', OIntSS Y (.slice (some ⟨g, 0, none⟩) Lc.length c) Lc bs' ∧ bs'.Nodup ∧ (∀ y ∈ bs', (y ∈ bs ∨ W2.heap.size ≤ y) ∧ y < X.heap.size) ∧ HC Y g c Lc bs' Y := by
  obtain ⟨bs', h1, h2, h3, h4⟩ := h
  have h5 := gv_IntSS.below h1 hb
  exact ⟨bs', h5, h2, fun y hy => ⟨h3 y hy, h1.lt (good_pe gv_IntS) y hy⟩, HC.start h5 h2⟩
set_option maxHeartbeats 2000000 in
theorem cut_any {W2 : World} {bs : List Nat} {g c B1 B2 B3 : Nat} {f : Int} (E1 : W2.cell? ⟨B1, 0, none⟩ = some (.slice (some ⟨g, 0, none⟩) 5 c)) (E2 : W2.cell? ⟨B2, 0, none⟩ = some (.int .i64 f)) (E3 : W2.cell? ⟨B3, 0, none⟩ = some (.func (.func 35) #[] #[.pointer (some ⟨B1, 0, none⟩), .pointer (some ⟨B2, 0, none⟩), .pointer (some ⟨B3, 0, none⟩)]))
    (l1 : B1 < W2.heap.size) (l2 : B2 < W2.heap.size) (l3 : B3 < W2.heap.size) (n1 : B1 ∉ bs) (n2 : B2 ∉ bs) (n3 : B3 ∉ bs) : ∀ (o : Nat) (Lc : List (List Int)) (X : World), o ≤ 4 → HC W2 g c Lc bs X → Lc.length = 5 → (∀ l ∈ Lc, l.length ≤ 1100014 - o) →
    Calls Try.prog 35 #[.int .i64 o, .pointer (some ⟨B1, 0, none⟩), .pointer (some ⟨B2, 0, none⟩), .pointer (some ⟨B3, 0, none⟩)] X fun e w' => e = .returned (.tuple #[]) ∧ HC W2 g c (cutL o f Lc) bs w' := by
  intro o
  induction o with
  | zero =>
    intro Lc X ho h hL hl
    show Calls Try.prog 35 #[.int .i64 (0 : Int), .pointer (some ⟨B1, 0, none⟩), .pointer (some ⟨B2, 0, none⟩), .pointer (some ⟨B3, 0, none⟩)] X _
    go_enter Try.func35, Try.ntmps35
    go_wp2
    refine bodyPost_ret (results_none rfl _ _ _) rfl ?_
    exact ⟨rfl, h⟩
  | succ o ih =>
    intro Lc X ho h hL hl
    have hd0 : (((o + 1 : Nat) : Int) == 0) = false := by simp; omega
    have hd1 : (((o : Int) + 1) == 0) = false := by simp; omega
    have hLO := fun w => lengthOf_any o w (by omega)
    obtain ⟨m2, hm2⟩ : ∃ m2 : Nat, 2 ^ o = m2 := ⟨_, rfl⟩
    rw [hm2] at hLO
    have HLN := hd hLO
    obtain ⟨x2, hx2⟩ : ∃ x2, IntKind.i64.wrap (f + (m2 : Int)) = x2 := ⟨_, rfl⟩
    have HCU : Hid (cutL (o + 1) f Lc = cutL o f (Lc.set o (putL (Lc.getD o []) x2))) := hd (by rw [← hx2, ← hm2]; rfl)
    have hk := h.kp
    have hBX : X.cell? ⟨B2, 0, none⟩ = some (.int .i64 f) := (kcell hk l2 n2).trans E2
    have HPU := hd (fun (Y : World) (hY : Below X.heap.size X Y) => put_any (x := x2) E1 l1 n1 (h.below hY) hL (show o < 5 by omega) (fun l hl2 => by have := hl l hl2; omega))
    have HIH := hd (fun (Y : World) (hY : HC W2 g c (Lc.set o (putL (Lc.getD o []) x2)) bs Y) => ih _ Y (by omega) hY (by rw [List.length_set]; exact hL) (fun l hl2 => by
      rcases List.mem_or_eq_of_mem_set hl2 with h1 | h1
      · have := hl l h1; omega
      · subst h1
        rw [putL_len]
        obtain ⟨y, hy⟩ : ∃ y, Lc[o]? = some y := ⟨Lc[o]'(by omega), by simp⟩
        rw [getD_at hy]
        have := hl y (List.mem_of_getElem? hy); omega))
    have HK3 := hd (fun (Y : World) (hY : Keep bs W2 Y) => (kcell (j := 0) hY l3 n3).trans E3)
    have HK2 := hd (fun (Y : World) (hY : Keep bs W2 Y) => (kcell (j := 0) hY l2 n2).trans E2)
    rw [HCU.out]
    clear ih h hl hLO hm2 E1 E2 E3
    go_enter Try.func35, Try.ntmps35
    go_wp2_with fail
    refine wp_region_held_drew (S := (fun Y => Y.cell? ⟨B2, 0, none⟩ = some (.int .i64 f))) (by kernel_rfl) ?_ (fun hHeld => ?_)
    · exact hBX
    obtain ⟨w0, hw0⟩ : ∃ Y, X.drew = Y := ⟨_, rfl⟩
    have hB0 : Below X.heap.size X w0 := by rw [← hw0]; exact (Below.refl _ _).drew
    have hS0 : w0.cell? ⟨B2, 0, none⟩ = some (.int .i64 f) := by rw [← hw0]; exact hBX
    rw [hw0] at hHeld ⊢
    clear hw0
    refine HeL.tk 0 ?_
    refine HeL.tk 1 ?_
    refine HeL.tk 4 ?_
    refine HeL.rd [2] ?_
    refine HeL.cn (fun K hK => ?_) AllReadyH.nil
    go_simp
    go_at_call 37
    refine (HLN.out _).mono ?_
    rintro e w_ ⟨rfl, rfl⟩
    try go_wp2_with fail
    refine HeL.st hK (hS0) (fun hH2 => ?_)
    clear hK K hHeld
    have hHeld := hH2; clear hH2
    refine HeL.tk 3 ?_
    refine HeL.rd [5] ?_
    refine HeL.cn (fun K hK => ?_) AllReadyH.nil
    go_simp
    go_at_call 36
    refine (HPU.out _ hB0).mono ?_
    rintro e wP ⟨rfl, hP⟩
    try go_wp2_with fail
    refine HeL.st hK (HK2.out wP hP.kp) (fun hH2 => ?_)
    clear hK K hHeld
    have hHeld := hH2; clear hH2
    refine wpAnyH_done (by kernel_rfl) ?_ _
    have c3 := HK3.out wP hP.kp
    have HI2 := hd (HIH.out wP hP)
    clear HIH HPU HLN
    go_wp2_with (go_at_call 35; refine HI2.out.mono ?_; rintro e w2 ⟨rfl, h2⟩)
    go_end0
    exact ⟨rfl, h2⟩

end Go.Proofs.Ytpgigoddjidfdaa.BuO
