/- Chapter 12, impl's side: slices.SortStableFunc of few processes by their numbers: one insertion behind the other. Condition: none. -/
import Derived.Test.YtoeolfegmklbaaaGreatArP
import Derived.BigQuiet
import Derived.BigRegion
import Derived.Deep.MidRow
namespace Go.Proofs.YtoeolfegmklbaaaGreat.ArQ
open Go.RowKit Go.Deep Num RowC TyA TyM TyB TyR TyF TyT TyV Bel IntC InsC ArS ArT ArG ArH ArJ ArK ArL ArM ArU ArV ArY ArN ArO ArP
set_option maxRecDepth 100000
set_option linter.unusedVariables false
set_option linter.unusedSimpArgs false

theorem setMany_app : ∀ (B P A Q : List Value), A.length = B.length → setMany (P ++ (A ++ Q)) P.length B = P ++ (B ++ Q)
 | [], P, A, Q, h => by
  obtain rfl : A = [] := List.eq_nil_of_length_eq_zero h
  rfl
 | u :: us, P, [], Q, h => by simp at h
 | u :: us, P, x :: A, Q, h => by
  have e : (P ++ (x :: A ++ Q)).set P.length u = (P ++ [u]) ++ (A ++ Q) := by
   rw [List.set_append_right _ _ (Nat.le_refl _), Nat.sub_self]; simp
  have ih := setMany_app us (P ++ [u]) A Q (by simpa using h)
  rw [setMany, e]
  rw [show (P ++ [u]).length = P.length + 1 by simp] at ih
  rw [ih]; simp
theorem chunks {k : Nat} (xs : List Value) : ∀ n, n * k ≤ xs.length → (List.range n).flatMap (fun i => (xs.drop (i * k)).take k) = xs.take (n * k)
 | 0, _ => by simp
 | n + 1, h => by
  rw [List.range_succ, List.flatMap_append, chunks xs n (by rw [Nat.succ_mul] at h; omega), Nat.succ_mul, List.take_add]
  simp
/-- A process in its cells, and the blocks that it leads to. -/
structure It where
 m : MProc
 a1 : Option Addr
 a2 : Option Addr
 a3 : Option Addr
 c1 : Nat
 c2 : Nat
 c3 : Nat
 b : List Nat
 deriving Inhabited
def It.cs (t : It) : List Value := t.m.cells (.slice t.a1 t.m.fCpu.fRegs.length t.c1) (.slice t.a2 t.m.fMem.length t.c2) (.slice t.a3 t.m.fFds.length t.c3)
theorem It.len (t : It) : t.cs.length = 10 := rfl
def flatI (l : List It) : List Value := l.flatMap It.cs
theorem flatI_app (l r : List It) : flatI (l ++ r) = flatI l ++ flatI r := by simp [flatI]
theorem flatI_cons (t : It) (r : List It) : flatI (t :: r) = t.cs ++ flatI r := by simp [flatI]
theorem flatI_len (l : List It) : (flatI l).length = l.length * 10 := by
 induction l with
 | nil => rfl
 | cons t l ih => rw [flatI_cons, List.length_append, ih, It.len, List.length_cons]; omega
theorem flatI_at (A : List It) (t : It) (B : List It) : ((flatI (A ++ t :: B)).drop (A.length * 10)).take 10 = t.cs := by
 rw [flatI_app, flatI_cons, ← flatI_len A, List.drop_left, List.take_left' (It.len t)]
structure RI (w : World) (g c n : Nat) (l : List It) : Prop where
 len : l.length = n
 own : w.ownsRow 0 177 10 (.slice (some ⟨g, 0, none⟩) n c) n (flatI l)
 each : ∀ t ∈ l, PProc w t.cs t.m t.b ∧ g ∉ t.b
theorem RI.of_row {w : World} {g c n : Nat} {l : List MProc} {bs : List Nat} (h : OProcS w (.slice (some ⟨g, 0, none⟩) n c) l bs) (hn : bs.Nodup) : ∃ its, RI w g c n its ∧ its.map It.m = l ∧ bs = g :: (its.map It.b).flatten := by
 obtain ⟨xs, bss, h1, h2, rfl, h4⟩ := h
 obtain ⟨a, c', hv⟩ := own_slice h1
 simp at hv
 obtain ⟨_, rfl, _⟩ := hv
 have hxl := h1.1
 rw [blk_some] at hn ⊢
 have each : ∀ i, i < l.length → ∃ t : It, (xs.drop (i * 10)).take 10 = t.cs ∧ PProc w t.cs t.m t.b ∧ l[i]? = some t.m ∧ bss[i]? = some t.b := by
  intro i hi
  have hp := h4 i l[i] (bss[i]'(by omega)) (List.getElem?_eq_getElem hi) (List.getElem?_eq_getElem (by omega))
  have hp' := hp
  obtain ⟨v1, v2, v3, b1, b2, b3, e, k1, k2, k3, eb⟩ := hp
  obtain ⟨a1, c1, rfl⟩ := gv_IntS.slice k1
  obtain ⟨a2, c2, rfl⟩ := gv_IntS.slice k2
  obtain ⟨a3, c3, rfl⟩ := gv_IntS.slice k3
  refine ⟨⟨l[i], a1, a2, a3, c1, c2, c3, bss[i]'(by omega)⟩, e, ?_, List.getElem?_eq_getElem hi, List.getElem?_eq_getElem (by omega)⟩
  rw [e] at hp'
  exact hp'
 obtain ⟨f, hf⟩ := choose_lt each
 have em : ((List.range l.length).map f).map It.m = l := by
  apply List.ext_getElem?
  intro i
  by_cases hi : i < l.length
  ·rw [List.getElem?_map, List.getElem?_map, List.getElem?_range hi]
   exact (hf i hi).2.2.1.symm
  ·rw [List.getElem?_eq_none (by simpa using hi), List.getElem?_eq_none (by omega)]
 have eb : ((List.range l.length).map f).map It.b = bss := by
  apply List.ext_getElem?
  intro i
  by_cases hi : i < l.length
  ·rw [List.getElem?_map, List.getElem?_map, List.getElem?_range hi]
   exact (hf i hi).2.2.2.symm
  ·rw [List.getElem?_eq_none (by simpa using hi), List.getElem?_eq_none (by omega)]
 refine ⟨(List.range l.length).map f, ⟨by simp, ?_, ?_⟩, em, by rw [eb]; rfl⟩
 ·have e : flatI ((List.range l.length).map f) = xs := by
   have h5 := chunks (k := 10) xs l.length (by omega)
   rw [List.take_of_length_le (by omega)] at h5
   rw [← h5]
   unfold flatI
   rw [List.flatMap_map]
   have : ∀ (L : List Nat), (∀ i ∈ L, i < l.length) → L.flatMap (fun i => (f i).cs) = L.flatMap (fun i => (xs.drop (i * 10)).take 10) := by
    intro L
    induction L with
    | nil => intro _; rfl
    | cons i L ih =>
     intro hL
     rw [List.flatMap_cons, List.flatMap_cons, ih (fun j hj => hL j (List.mem_cons_of_mem _ hj)), (hf i (hL i (List.mem_cons_self ..))).1]
   exact this _ (fun i hi => by simpa using hi)
  rw [e]; exact h1
 ·intro t ht
  obtain ⟨i, hi, rfl⟩ := List.mem_map.1 ht
  have hi' : i < l.length := by simpa using hi
  refine ⟨(hf i hi').2.1, fun hg => ?_⟩
  have := (List.nodup_cons.1 hn).1
  exact this (mem_flat (hf i hi').2.2.2 hg)
theorem RI.row {w : World} {g c n : Nat} {its : List It} (h : RI w g c n its) : OProcS w (.slice (some ⟨g, 0, none⟩) n c) (its.map It.m) (g :: (its.map It.b).flatten) := by
 obtain ⟨rfl, h1, h2⟩ := h
 refine ⟨flatI its, its.map It.b, by simpa using h1, by simp, rfl, fun i x b hx hb => ?_⟩
 rw [List.getElem?_map] at hx hb
 obtain ⟨t, ht, rfl⟩ := Option.map_eq_some_iff.1 hx
 rw [ht] at hb
 simp at hb
 subst hb
 obtain ⟨hi, e⟩ := List.getElem?_eq_some_iff.1 ht
 have es : its = its.take i ++ t :: its.drop (i + 1) := by rw [← e, ← List.drop_eq_getElem_cons hi, List.take_append_drop]
 have := flatI_at (its.take i) t (its.drop (i + 1))
 rw [← es, List.length_take, Nat.min_eq_left (Nat.le_of_lt hi)] at this
 rw [this]
 exact (h2 t (List.mem_of_getElem? ht)).1
theorem RI.keep {w w' : World} {g c n : Nat} {l : List It} {bs : List Nat} (h : RI w g c n l) (hk : Keep bs w w') (hg : g ∉ bs) (hb : ∀ t ∈ l, ∀ y ∈ t.b, y ∉ bs) : RI w' g c n l :=
 ⟨h.len, own_kept h.own hk (by rw [blk_some]; simpa using hg), fun t ht => ⟨good_Proc.keep (h.each t ht).1 hk (hb t ht), (h.each t ht).2⟩⟩
theorem RI.below {w w' : World} {g c n : Nat} {l : List It} (h : RI w g c n l) (hb : Below w.heap.size w w') : RI w' g c n l := h.keep (Keep.of_below [] hb) (by simp) (by simp)
/-- Sorted by their numbers. -/
def Srt (l : List MProc) : Prop := l.Pairwise (fun p q => p.fPid ≤ q.fPid)
theorem ins_eq (A B : List MProc) (x : MProc) (hs : Srt (A ++ B)) (hB : ∀ y ∈ B, x.fPid < y.fPid) (hA : ∀ y ∈ A, y.fPid ≤ x.fPid) : insP (A ++ B) x = A ++ x :: B ∧ Srt (A ++ x :: B) := by
 have e : insAt (A ++ B) x = A.length := by
  unfold insAt
  rw [List.findIdx_append, if_neg (by
   intro h
   obtain ⟨y, hy, hp⟩ := List.findIdx_lt_length.1 h
   simp at hp
   have := hA y hy
   omega)]
  cases B with
  | nil => simp
  | cons y B =>
   have := hB y (List.mem_cons_self ..)
   rw [List.findIdx_cons]
   simp [this]
 refine ⟨by unfold insP; rw [e]; simp, ?_⟩
 unfold Srt at hs ⊢
 rw [List.pairwise_append] at hs ⊢
 refine ⟨hs.1, List.pairwise_cons.2 ⟨fun y hy => Int.le_of_lt (hB y hy), hs.2.1⟩, fun a ha b hb => ?_⟩
 rcases List.mem_cons.1 hb with rfl | hb
 ·exact hA a ha
 ·exact hs.2.2 a ha b hb
theorem last_le {A : List MProc} {y x : MProc} (hs : Srt (A ++ [y])) (h : y.fPid ≤ x.fPid) : ∀ z ∈ A ++ [y], z.fPid ≤ x.fPid := by
 intro z hz
 rcases List.mem_append.1 hz with hz | hz
 ·have := (List.pairwise_append.1 hs).2.2 z hz y (by simp)
  omega
 ·simp at hz; subst hz; exact h
theorem srt_pre {A B : List MProc} (h : Srt (A ++ B)) : Srt A := (List.pairwise_append.1 h).1

def sg (a b : Int) : Int := if a < b then -1 else if b < a then 1 else 0
theorem nan_any (a : Int) (w : World) : Calls Tryz.prog 207 #[.int .i64 a] w fun e w' => e = .returned (.bool false) ∧ w = w' := by
 have e : (a != a) = false := by simp
 go_enter Tryz.func207, Tryz.ntmps207
 go_wp2
 go_ret
 exact ⟨rfl, rfl⟩
theorem compare_any (a b : Int) (w : World) : Calls Tryz.prog 141 #[.int .i64 a, .int .i64 b] w fun e w' => e = .returned (.int .i64 (sg a b)) ∧ w = w' := by
 have H1 := hd (fun X => nan_any a X)
 have H2 := hd (fun X => nan_any b X)
 have step : ∀ (s : Int) (c1 c2 : Bool), decide (a < b) = c1 → decide (b < a) = c2 → sg a b = s → (c1 = true ∧ s = -1 ∨ c1 = false ∧ c2 = true ∧ s = 1 ∨ c1 = false ∧ c2 = false ∧ s = 0) := by
  intro s c1 c2 h1 h2 h3
  subst h1 h2 h3
  unfold sg
  by_cases h1 : a < b
  ·simp [h1]
  ·by_cases h2 : b < a
   ·simp [h1, h2]
   ·simp [h1, h2]
 obtain ⟨s, hs⟩ : ∃ s, sg a b = s := ⟨_, rfl⟩
 rw [hs]
 rcases step s _ _ rfl rfl hs with ⟨h1, rfl⟩ | ⟨h1, h2, rfl⟩ | ⟨h1, h2, rfl⟩
 ·have h1' : a < b := by simpa using h1
  clear hs step
  go_enter Tryz.func141, Tryz.ntmps141
  go_wp2_with (first | (go_at_call 207; refine (H1.out _).mono ?_; rintro e w1 ⟨rfl, rfl⟩) | (go_at_call 207; refine (H2.out _).mono ?_; rintro e w1 ⟨rfl, rfl⟩))
  go_ret
  exact ⟨rfl, rfl⟩
 ·have h1' : ¬ a < b := by simpa using h1
  have h2' : b < a := by simpa using h2
  clear hs step
  go_enter Tryz.func141, Tryz.ntmps141
  go_wp2_with (first | (go_at_call 207; refine (H1.out _).mono ?_; rintro e w1 ⟨rfl, rfl⟩) | (go_at_call 207; refine (H2.out _).mono ?_; rintro e w1 ⟨rfl, rfl⟩))
  go_ret
  exact ⟨rfl, rfl⟩
 ·have h1' : ¬ a < b := by simpa using h1
  have h2' : ¬ b < a := by simpa using h2
  clear hs step
  go_enter Tryz.func141, Tryz.ntmps141
  go_wp2_with (first | (go_at_call 207; refine (H1.out _).mono ?_; rintro e w1 ⟨rfl, rfl⟩) | (go_at_call 207; refine (H2.out _).mono ?_; rintro e w1 ⟨rfl, rfl⟩))
  go_ret
  exact ⟨rfl, rfl⟩
theorem cmpP_any (p q : It) (w : World) : Calls Tryz.prog 140 #[.agg p.cs.toArray, .agg q.cs.toArray] w fun e w' => e = .returned (.int .i64 (sg p.m.fPid q.m.fPid)) ∧ Below w.heap.size w w' := by
 have H := hd (fun X => compare_any p.m.fPid q.m.fPid X)
 unfold It.cs MProc.cells cI
 obtain ⟨s, hs⟩ : ∃ s, sg p.m.fPid q.m.fPid = s := ⟨_, rfl⟩
 rw [hs] at H ⊢
 clear hs
 go_enter Tryz.func140, Tryz.ntmps140
 go_wp2_with (go_at_call 141; fail)
 refine (H.out _).mono ?_
 rintro e w1 ⟨rfl, rfl⟩
 go_wp2
 go_ret
 exact ⟨rfl, ((Below.refl _ w).alloc (Nat.le_refl _) _).alloc (by simp) _⟩

theorem own_many {w : World} {B e sz n cap g : Nat} : ∀ {z : List Value}, w.ownsRow B e sz (.slice (some ⟨g, 0, none⟩) n cap) n z → ∀ (o : Nat) (us : List Value), (w.setCells g o us).ownsRow B e sz (.slice (some ⟨g, 0, none⟩) n cap) n (setMany z o us) := by
 intro z h o us
 induction us generalizing w z o with
 | nil => exact h
 | cons u us ih => exact ih (h.stored o u).1 (o + 1)
theorem keep_many (w : World) (g o : Nat) (us : List Value) : Keep [g] w (w.setCells g o us) := by
 induction us generalizing w o with
 | nil => exact Keep.refl _ _
 | cons u us ih => exact (Keep.set w g o u [g] (by simp)).trans (ih _ _)
theorem own_there {w : World} {B e sz n cap g o m : Nat} {z : List Value} (h : w.ownsRow B e sz (.slice (some ⟨g, 0, none⟩) n cap) n z) (ho : o + m ≤ n * sz) : w.there g o m := fun j hj => by
 have hl := h.1
 refine ⟨?_, h.frozenAt _⟩
 rw [h.cellAt (o + j) (by omega), List.getElem?_eq_getElem (by omega)]
 rfl
/-- How it stands while x is put in. -/
structure Mid (w wr : World) (g c n : Nat) (S R : List It) (x : It) (A B : List It) : Prop where
 app : A ++ B = S
 gt : ∀ y ∈ B, x.m.fPid < y.m.fPid
 ri : RI wr g c n (A ++ x :: (B ++ R))
 kp : Keep [g] w wr
structure Big (w wr : World) (g c n : Nat) (its : List It) (k : Nat) (S : List It) : Prop where
 ri : RI wr g c n (S ++ its.drop k)
 fold : S.map It.m = ((its.take k).map It.m).foldl insP []
 srt : Srt (S.map It.m)
 perm : S.Perm (its.take k)
 kp : Keep [g] w wr
theorem Big.next {w wr : World} {g c n k : Nat} {its S A B : List It} {x : It} (h1 : S.map It.m = ((its.take k).map It.m).foldl insP []) (h2 : Srt (S.map It.m)) (h3 : S.Perm (its.take k)) (hx : its[k]? = some x) (hm : Mid w wr g c n S (its.drop (k + 1)) x A B) (hA : ∀ y ∈ A, y.m.fPid ≤ x.m.fPid) : Big w wr g c n its (k + 1) (A ++ x :: B) := by
 obtain ⟨e1, e2⟩ := List.getElem?_eq_some_iff.1 hx
 have e3 : its.take (k + 1) = its.take k ++ [x] := by rw [List.take_succ_eq_append_getElem e1, e2]
 have e4 := hm.app
 have e5 := ins_eq (A.map It.m) (B.map It.m) x.m (by rw [← List.map_append, e4]; exact h2) (fun y hy => by obtain ⟨t, ht, rfl⟩ := List.mem_map.1 hy; exact hm.gt t ht) (fun y hy => by obtain ⟨t, ht, rfl⟩ := List.mem_map.1 hy; exact hA t ht)
 refine ⟨by have := hm.ri; simpa using this, ?_, ?_, ?_, hm.kp⟩
 ·have e6 : (its.take (k + 1)).map It.m = (its.take k).map It.m ++ [x.m] := by rw [e3]; simp
  rw [e6, List.foldl_append, ← h1, ← e4]
  simp only [List.map_cons, List.foldl_cons, List.foldl_nil, List.map_append]
  exact e5.1.symm
 ·have := e5.2
  simpa using this
 ·rw [e3]
  exact List.perm_middle.trans ((List.Perm.cons x (show (A ++ B).Perm (its.take k) by rw [e4]; exact h3)).trans (List.perm_append_singleton x (its.take k)).symm)
set_option maxHeartbeats 16000000 in
theorem isort_some (g c n : Nat) (its : List It) (w : World) (h : RI w g c n its) (hn : n ≤ 1000) :
  Calls Tryz.prog 259 #[.slice (some ⟨g, 0, none⟩) n c, .int .i64 0, .int .i64 (n : Int), .func (.func 140) #[] #[]] w fun e w' => e = .returned (.tuple #[]) ∧ ∃ its', RI w' g c n its' ∧ its'.map It.m = (its.map It.m).foldl insP [] ∧ its'.Perm its ∧ Keep [g] w w' := by
 have hlen := h.len
 have H0 : Hid (Big w w g c n its 1 (its.take 1)) := hd (by
  refine ⟨by rw [List.take_append_drop]; exact h, ?_, ?_, List.Perm.refl _, Keep.refl _ _⟩
  ·cases its with
   | nil => rfl
   | cons t r => simp [insP, insAt]
  ·cases its with
   | nil => simp [Srt]
   | cons t r => simp [Srt])
 have HLN := hd hlen
 clear h hlen
 go_enter Tryz.func259, Tryz.ntmps259
 go_wp2_with fail
 go_loopw [8] (fun i wr => ∃ (k : Nat) (S : List It), i = .int .i64 (k : Int) ∧ 1 ≤ k ∧ k ≤ n + 1 ∧ Hid (Big w wr g c n its k S)) (fun i _ => n + 1 - (intOf i).toNat)
 case atStart => exact ⟨1, its.take 1, rfl, Nat.le_refl _, by omega, H0⟩
 case round =>
  clear H0
  obtain ⟨k, S, rfl, hk1, hk2, hB⟩ := hrel
  by_cases hlt : k < n
  ·obtain ⟨x, hx⟩ : ∃ x, its[k]? = some x := ⟨its[k]'(by have := HLN.out; omega), by simp⟩
   have hd1 : its.drop k = x :: its.drop (k + 1) := by
    obtain ⟨e1, e2⟩ := List.getElem?_eq_some_iff.1 hx
    rw [← e2]; exact List.drop_eq_getElem_cons e1
   have hSl : S.length = k := by have := hB.out.perm.length_eq; rw [this, List.length_take, HLN.out]; omega
   have HM0 : Hid (Mid w wr g c n S (its.drop (k + 1)) x S []) := hd ⟨by simp, by simp, by have := hB.out.ri; rw [hd1] at this; simpa using this, hB.out.kp⟩
   have HF := hd hB.out.fold
   have HS := hd hB.out.srt
   have HPm := hd hB.out.perm
   have HX := hd hx
   have hki : (k : Int) < n := by omega
   clear hB hx hd1
   go_wp2_with fail
   go_loopw [9] (fun i wr => ∃ (A B : List It), i = .int .i64 (A.length : Int) ∧ Hid (Mid w wr g c n S (its.drop (k + 1)) x A B)) (fun i _ => (intOf i).toNat)
   case atStart => exact ⟨S, [], by rw [hSl], HM0⟩
   case round =>
    clear HM0 hSl
    obtain ⟨A, B, rfl, hM⟩ := hrel
    rcases List.eq_nil_or_concat A with rfl | ⟨A', y, rfl⟩
    ·have HB2 : Hid (Big w wr g c n its (k + 1) ([] ++ x :: B)) := hd (Big.next HF.out HS.out HPm.out HX.out hM.out (by simp))
     have hgt : decide ((([] : List It).length : Int) > 0) = false := by simp
     obtain ⟨x0, hx0⟩ : ∃ x0 : Bel wr, x0.w = wr := ⟨⟨wr, Below.refl _ _⟩, rfl⟩
     replace hx0 := hd hx0
     clear hM
     go_wp2_with fail
     rw [← hx0.out]
     refine region_in _ (by kernel_rfl) (by kernel_rfl) (fun hne => ?_)
     repeat (go_big_quiet_step (fail))
     refine wpQuiet_nil ?_
     rintro _ ⟨yB, rfl⟩
     have HB3 : Hid (Big w yB.w g c n its (k + 1) ([] ++ x :: B)) := hd ⟨HB2.out.ri.below yB.ok, HB2.out.fold, HB2.out.srt, HB2.out.perm, HB2.out.kp.trans (Keep.of_below _ yB.ok)⟩
     clear HB2
     go_wp2_with fail
     go_roundw
     case rel => exact ⟨k + 1, _, by go_num, by omega, by omega, HB3⟩
     case measure => simp [intOf]; omega
    ·rw [List.concat_eq_append] at *
     obtain ⟨q, hq⟩ : ∃ q, A'.length = q := ⟨_, rfl⟩
     obtain ⟨j, hj⟩ : ∃ j, (A' ++ [y]).length = j := ⟨_, rfl⟩
     have hjq : j = q + 1 := by rw [← hj, ← hq]; simp
     have hri := hM.out.ri
     have hjn : j < n := by have h1 := hri.len; simp at h1; simp at hj; omega
     have hcx : ∀ (i : Nat) (u : Value), x.cs[i]? = some u → wr.cell? ⟨g, j * 10 + i, none⟩ = some u := fun i u hu => by
      have h1 := flatI_at (A' ++ [y]) x (B ++ its.drop (k + 1))
      rw [hj] at h1
      have hi : i < 10 := by have := (List.getElem?_eq_some_iff.1 hu).1; rw [It.len] at this; exact this
      rw [hri.own.cellAt (j * 10 + i) (by omega), ← hu, ← h1, List.getElem?_take_of_lt hi, List.getElem?_drop]
     have hcy : ∀ (i : Nat) (u : Value), y.cs[i]? = some u → wr.cell? ⟨g, q * 10 + i, none⟩ = some u := fun i u hu => by
      have h1 := flatI_at A' y (x :: (B ++ its.drop (k + 1)))
      rw [hq] at h1
      have hi : i < 10 := by have := (List.getElem?_eq_some_iff.1 hu).1; rw [It.len] at this; exact this
      have h2 := hri.own.cellAt (q * 10 + i) (by omega)
      rw [List.append_assoc] at h2
      rw [h2, ← hu, ← h1, List.getElem?_take_of_lt hi, List.getElem?_drop]
      rfl
     rw [hj]
     have cx0 := cellB (W := wr) (show wr.cell? ⟨g, j * 10, none⟩ = some (.int .i64 x.m.fPid) from hcx 0 _ rfl)
     have cx1 := cellB (W := wr) (show wr.cell? ⟨g, j * 10 + 1, none⟩ = some (.int .i64 x.m.fParent) from hcx 1 _ rfl)
     have cx2 := cellB (W := wr) (show wr.cell? ⟨g, j * 10 + 2, none⟩ = some (.int .i64 x.m.fState) from hcx 2 _ rfl)
     have cx3 := cellB (W := wr) (show wr.cell? ⟨g, j * 10 + 3, none⟩ = some (.int .i64 x.m.fProg) from hcx 3 _ rfl)
     have cx4 := cellB (W := wr) (show wr.cell? ⟨g, j * 10 + 4, none⟩ = some (.int .i64 x.m.fCpu.fPc) from hcx 4 _ rfl)
     have cx5 := cellB (W := wr) (show wr.cell? ⟨g, j * 10 + 5, none⟩ = some (.slice x.a1 x.m.fCpu.fRegs.length x.c1) from hcx 5 _ rfl)
     have cx6 := cellB (W := wr) (show wr.cell? ⟨g, j * 10 + 6, none⟩ = some (.slice x.a2 x.m.fMem.length x.c2) from hcx 6 _ rfl)
     have cx7 := cellB (W := wr) (show wr.cell? ⟨g, j * 10 + 7, none⟩ = some (.slice x.a3 x.m.fFds.length x.c3) from hcx 7 _ rfl)
     have cx8 := cellB (W := wr) (show wr.cell? ⟨g, j * 10 + 8, none⟩ = some (.int .i64 x.m.fUntil) from hcx 8 _ rfl)
     have cx9 := cellB (W := wr) (show wr.cell? ⟨g, j * 10 + 9, none⟩ = some (.int .i64 x.m.fCode) from hcx 9 _ rfl)
     have cy0 := cellB (W := wr) (show wr.cell? ⟨g, q * 10, none⟩ = some (.int .i64 y.m.fPid) from hcy 0 _ rfl)
     have cy1 := cellB (W := wr) (show wr.cell? ⟨g, q * 10 + 1, none⟩ = some (.int .i64 y.m.fParent) from hcy 1 _ rfl)
     have cy2 := cellB (W := wr) (show wr.cell? ⟨g, q * 10 + 2, none⟩ = some (.int .i64 y.m.fState) from hcy 2 _ rfl)
     have cy3 := cellB (W := wr) (show wr.cell? ⟨g, q * 10 + 3, none⟩ = some (.int .i64 y.m.fProg) from hcy 3 _ rfl)
     have cy4 := cellB (W := wr) (show wr.cell? ⟨g, q * 10 + 4, none⟩ = some (.int .i64 y.m.fCpu.fPc) from hcy 4 _ rfl)
     have cy5 := cellB (W := wr) (show wr.cell? ⟨g, q * 10 + 5, none⟩ = some (.slice y.a1 y.m.fCpu.fRegs.length y.c1) from hcy 5 _ rfl)
     have cy6 := cellB (W := wr) (show wr.cell? ⟨g, q * 10 + 6, none⟩ = some (.slice y.a2 y.m.fMem.length y.c2) from hcy 6 _ rfl)
     have cy7 := cellB (W := wr) (show wr.cell? ⟨g, q * 10 + 7, none⟩ = some (.slice y.a3 y.m.fFds.length y.c3) from hcy 7 _ rfl)
     have cy8 := cellB (W := wr) (show wr.cell? ⟨g, q * 10 + 8, none⟩ = some (.int .i64 y.m.fUntil) from hcy 8 _ rfl)
     have cy9 := cellB (W := wr) (show wr.cell? ⟨g, q * 10 + 9, none⟩ = some (.int .i64 y.m.fCode) from hcy 9 _ rfl)
     have HC := hd (callB (W := wr) fun X hb => cmpP_any x y X)
     unfold It.cs MProc.cells cI at HC
     obtain ⟨x0, hx0⟩ : ∃ x0 : Bel wr, x0.w = wr := ⟨⟨wr, Below.refl _ _⟩, rfl⟩
     replace hx0 := hd hx0
     have hw1 : IntKind.i64.wrap ((j : Int) - 1) = (q : Int) := by rw [IntKind.wrap_i64]; omega
     have hgt0 : 0 < j := by omega
     have hgt : decide (0 < j) = true := by simp; omega
     have hj0 : (0 : Int) ≤ (j : Int) := by omega
     have hj1 : (j : Int) < (n : Int) := by omega
     have hq0 : (0 : Int) ≤ (q : Int) := by omega
     have hq1 : (q : Int) < (n : Int) := by omega
     have HJ := hd hjq
     have hMM := hd hM.out
     clear hcx hcy hri hjq hM
     by_cases hlt2 : x.m.fPid < y.m.fPid
     ·have hsg : sg x.m.fPid y.m.fPid = -1 := by unfold sg; rw [if_pos hlt2]
      rw [hsg] at HC
      have HLT := hd hlt2
      clear hlt2 hsg
      go_wp2_with fail
      rw [← hx0.out]
      refine region_in _ (by kernel_rfl) (by kernel_rfl) (fun hne => ?_)
      repeat (go_big_quiet_step ((go_at_call 140; exact HC.out _)))
      refine wpQuiet_nil ?_
      rintro _ ⟨yB, rfl⟩
      have hriy := hMM.out.ri.below yB.ok
      have hown := hriy.own
      obtain ⟨w0, hw0⟩ : ∃ X, yB.w.drew = X := ⟨_, rfl⟩
      have hKw0 : Keep [g] yB.w w0 := by rw [← hw0]; exact (Keep.refl _ _).drew
      have hri0 : RI w0 g c n (A' ++ [y] ++ x :: (B ++ its.drop (k + 1))) := by rw [← hw0]; exact hriy.keep (bs := []) ((Keep.refl [] _).drew) (by simp) (by simp)
      have dx0 : w0.cell? ⟨g, j * 10, none⟩ = some (.int .i64 x.m.fPid) := by rw [← hw0]; exact cx0 yB
      have dx1 : w0.cell? ⟨g, j * 10 + 1, none⟩ = some (.int .i64 x.m.fParent) := by rw [← hw0]; exact cx1 yB
      have dx2 : w0.cell? ⟨g, j * 10 + 2, none⟩ = some (.int .i64 x.m.fState) := by rw [← hw0]; exact cx2 yB
      have dx3 : w0.cell? ⟨g, j * 10 + 3, none⟩ = some (.int .i64 x.m.fProg) := by rw [← hw0]; exact cx3 yB
      have dx4 : w0.cell? ⟨g, j * 10 + 4, none⟩ = some (.int .i64 x.m.fCpu.fPc) := by rw [← hw0]; exact cx4 yB
      have dx5 : w0.cell? ⟨g, j * 10 + 5, none⟩ = some (.slice x.a1 x.m.fCpu.fRegs.length x.c1) := by rw [← hw0]; exact cx5 yB
      have dx6 : w0.cell? ⟨g, j * 10 + 6, none⟩ = some (.slice x.a2 x.m.fMem.length x.c2) := by rw [← hw0]; exact cx6 yB
      have dx7 : w0.cell? ⟨g, j * 10 + 7, none⟩ = some (.slice x.a3 x.m.fFds.length x.c3) := by rw [← hw0]; exact cx7 yB
      have dx8 : w0.cell? ⟨g, j * 10 + 8, none⟩ = some (.int .i64 x.m.fUntil) := by rw [← hw0]; exact cx8 yB
      have dx9 : w0.cell? ⟨g, j * 10 + 9, none⟩ = some (.int .i64 x.m.fCode) := by rw [← hw0]; exact cx9 yB
      have dy0 : w0.cell? ⟨g, q * 10, none⟩ = some (.int .i64 y.m.fPid) := by rw [← hw0]; exact cy0 yB
      have dy1 : w0.cell? ⟨g, q * 10 + 1, none⟩ = some (.int .i64 y.m.fParent) := by rw [← hw0]; exact cy1 yB
      have dy2 : w0.cell? ⟨g, q * 10 + 2, none⟩ = some (.int .i64 y.m.fState) := by rw [← hw0]; exact cy2 yB
      have dy3 : w0.cell? ⟨g, q * 10 + 3, none⟩ = some (.int .i64 y.m.fProg) := by rw [← hw0]; exact cy3 yB
      have dy4 : w0.cell? ⟨g, q * 10 + 4, none⟩ = some (.int .i64 y.m.fCpu.fPc) := by rw [← hw0]; exact cy4 yB
      have dy5 : w0.cell? ⟨g, q * 10 + 5, none⟩ = some (.slice y.a1 y.m.fCpu.fRegs.length y.c1) := by rw [← hw0]; exact cy5 yB
      have dy6 : w0.cell? ⟨g, q * 10 + 6, none⟩ = some (.slice y.a2 y.m.fMem.length y.c2) := by rw [← hw0]; exact cy6 yB
      have dy7 : w0.cell? ⟨g, q * 10 + 7, none⟩ = some (.slice y.a3 y.m.fFds.length y.c3) := by rw [← hw0]; exact cy7 yB
      have dy8 : w0.cell? ⟨g, q * 10 + 8, none⟩ = some (.int .i64 y.m.fUntil) := by rw [← hw0]; exact cy8 yB
      have dy9 : w0.cell? ⟨g, q * 10 + 9, none⟩ = some (.int .i64 y.m.fCode) := by rw [← hw0]; exact cy9 yB
      have hown0 := hri0.own
      have hO1 := own_many hown0 (j * 10) [.int .i64 y.m.fPid, .int .i64 y.m.fParent, .int .i64 y.m.fState, .int .i64 y.m.fProg, .int .i64 y.m.fCpu.fPc, .slice y.a1 y.m.fCpu.fRegs.length y.c1, .slice y.a2 y.m.fMem.length y.c2, .slice y.a3 y.m.fFds.length y.c3, .int .i64 y.m.fUntil, .int .i64 y.m.fCode]
      have hO2 := own_many hO1 (q * 10) [.int .i64 x.m.fPid, .int .i64 x.m.fParent, .int .i64 x.m.fState, .int .i64 x.m.fProg, .int .i64 x.m.fCpu.fPc, .slice x.a1 x.m.fCpu.fRegs.length x.c1, .slice x.a2 x.m.fMem.length x.c2, .slice x.a3 x.m.fFds.length x.c3, .int .i64 x.m.fUntil, .int .i64 x.m.fCode]
      have hK1 := keep_many w0 g (j * 10) [.int .i64 y.m.fPid, .int .i64 y.m.fParent, .int .i64 y.m.fState, .int .i64 y.m.fProg, .int .i64 y.m.fCpu.fPc, .slice y.a1 y.m.fCpu.fRegs.length y.c1, .slice y.a2 y.m.fMem.length y.c2, .slice y.a3 y.m.fFds.length y.c3, .int .i64 y.m.fUntil, .int .i64 y.m.fCode]
      have hK2 := keep_many (w0.setCells g (j * 10) [.int .i64 y.m.fPid, .int .i64 y.m.fParent, .int .i64 y.m.fState, .int .i64 y.m.fProg, .int .i64 y.m.fCpu.fPc, .slice y.a1 y.m.fCpu.fRegs.length y.c1, .slice y.a2 y.m.fMem.length y.c2, .slice y.a3 y.m.fFds.length y.c3, .int .i64 y.m.fUntil, .int .i64 y.m.fCode]) g (q * 10) [.int .i64 x.m.fPid, .int .i64 x.m.fParent, .int .i64 x.m.fState, .int .i64 x.m.fProg, .int .i64 x.m.fCpu.fPc, .slice x.a1 x.m.fCpu.fRegs.length x.c1, .slice x.a2 x.m.fMem.length x.c2, .slice x.a3 x.m.fFds.length x.c3, .int .i64 x.m.fUntil, .int .i64 x.m.fCode]
      have HTH : Hid (w0.there g (j * 10) 10 ∧ (w0.setCells g (j * 10) [.int .i64 y.m.fPid, .int .i64 y.m.fParent, .int .i64 y.m.fState, .int .i64 y.m.fProg, .int .i64 y.m.fCpu.fPc, .slice y.a1 y.m.fCpu.fRegs.length y.c1, .slice y.a2 y.m.fMem.length y.c2, .slice y.a3 y.m.fFds.length y.c3, .int .i64 y.m.fUntil, .int .i64 y.m.fCode]).there g (q * 10) 10 ∧ Keep [g] yB.w (w0.setCells g (j * 10) [.int .i64 y.m.fPid, .int .i64 y.m.fParent, .int .i64 y.m.fState, .int .i64 y.m.fProg, .int .i64 y.m.fCpu.fPc, .slice y.a1 y.m.fCpu.fRegs.length y.c1, .slice y.a2 y.m.fMem.length y.c2, .slice y.a3 y.m.fFds.length y.c3, .int .i64 y.m.fUntil, .int .i64 y.m.fCode]) ∧ Keep [g] yB.w ((w0.setCells g (j * 10) [.int .i64 y.m.fPid, .int .i64 y.m.fParent, .int .i64 y.m.fState, .int .i64 y.m.fProg, .int .i64 y.m.fCpu.fPc, .slice y.a1 y.m.fCpu.fRegs.length y.c1, .slice y.a2 y.m.fMem.length y.c2, .slice y.a3 y.m.fFds.length y.c3, .int .i64 y.m.fUntil, .int .i64 y.m.fCode]).setCells g (q * 10) [.int .i64 x.m.fPid, .int .i64 x.m.fParent, .int .i64 x.m.fState, .int .i64 x.m.fProg, .int .i64 x.m.fCpu.fPc, .slice x.a1 x.m.fCpu.fRegs.length x.c1, .slice x.a2 x.m.fMem.length x.c2, .slice x.a3 x.m.fFds.length x.c3, .int .i64 x.m.fUntil, .int .i64 x.m.fCode])) := hd ⟨own_there hown0 (by omega), own_there hO1 (by omega), hKw0.trans hK1, (hKw0.trans hK1).trans hK2⟩
      have HN : Hid (Mid w ((w0.setCells g (j * 10) [.int .i64 y.m.fPid, .int .i64 y.m.fParent, .int .i64 y.m.fState, .int .i64 y.m.fProg, .int .i64 y.m.fCpu.fPc, .slice y.a1 y.m.fCpu.fRegs.length y.c1, .slice y.a2 y.m.fMem.length y.c2, .slice y.a3 y.m.fFds.length y.c3, .int .i64 y.m.fUntil, .int .i64 y.m.fCode]).setCells g (q * 10) [.int .i64 x.m.fPid, .int .i64 x.m.fParent, .int .i64 x.m.fState, .int .i64 x.m.fProg, .int .i64 x.m.fCpu.fPc, .slice x.a1 x.m.fCpu.fRegs.length x.c1, .slice x.a2 x.m.fMem.length x.c2, .slice x.a3 x.m.fFds.length x.c3, .int .i64 x.m.fUntil, .int .i64 x.m.fCode]) g c n S (its.drop (k + 1)) x A' (y :: B)) := hd (by
       have hz : flatI (A' ++ [y] ++ x :: (B ++ its.drop (k + 1))) = flatI A' ++ (y.cs ++ (x.cs ++ flatI (B ++ its.drop (k + 1)))) := by rw [List.append_assoc, flatI_app, List.singleton_append, flatI_cons, flatI_cons]
       have e1 := setMany_app y.cs (flatI A' ++ y.cs) x.cs (flatI (B ++ its.drop (k + 1))) rfl
       have e2 := setMany_app x.cs (flatI A') y.cs (y.cs ++ flatI (B ++ its.drop (k + 1))) rfl
       rw [show (flatI A' ++ y.cs).length = j * 10 by rw [List.length_append, flatI_len, It.len, hq, HJ.out]; omega] at e1
       rw [flatI_len, hq] at e2
       refine ⟨by have := hMM.out.app; simpa using this, fun z hz' => ?_, ⟨by have := hri0.len; simpa using this, ?_, fun t ht => ?_⟩, hMM.out.kp.trans ((Keep.of_below _ yB.ok).trans HTH.out.2.2.2)⟩
       ·rcases List.mem_cons.1 hz' with rfl | hz'
        ·exact HLT.out
        ·exact hMM.out.gt z hz'
       ·have e3 : flatI (A' ++ x :: (y :: B ++ its.drop (k + 1))) = setMany (setMany (flatI (A' ++ [y] ++ x :: (B ++ its.drop (k + 1)))) (j * 10) y.cs) (q * 10) x.cs := by
         rw [hz, ← List.append_assoc (flatI A'), e1, List.append_assoc, e2, flatI_app, flatI_cons, List.cons_append, flatI_cons]
        rw [e3]
        exact hO2
       ·have h9 := hri0.each t (by simp at ht ⊢; rcases ht with h | h | h | h <;> simp [h])
        exact ⟨good_Proc.keep h9.1 (hK1.trans hK2) (fun b hb hbg => by simp at hbg; subst hbg; exact h9.2 hb), h9.2⟩)
      obtain ⟨w1_, hw1_⟩ : ∃ X, (w0.setCells g (j * 10) [.int .i64 y.m.fPid, .int .i64 y.m.fParent, .int .i64 y.m.fState, .int .i64 y.m.fProg, .int .i64 y.m.fCpu.fPc, .slice y.a1 y.m.fCpu.fRegs.length y.c1, .slice y.a2 y.m.fMem.length y.c2, .slice y.a3 y.m.fFds.length y.c3, .int .i64 y.m.fUntil, .int .i64 y.m.fCode]) = X := ⟨_, rfl⟩
      rw [hw1_] at HTH HN
      obtain ⟨w2_, hw2_⟩ : ∃ X, w1_.setCells g (q * 10) [.int .i64 x.m.fPid, .int .i64 x.m.fParent, .int .i64 x.m.fState, .int .i64 x.m.fProg, .int .i64 x.m.fCpu.fPc, .slice x.a1 x.m.fCpu.fRegs.length x.c1, .slice x.a2 x.m.fMem.length x.c2, .slice x.a3 x.m.fFds.length x.c3, .int .i64 x.m.fUntil, .int .i64 x.m.fCode] = X := ⟨_, rfl⟩
      rw [hw2_] at HTH HN
      have HW1 := hd hw1_
      have HW2 := hd hw2_
      clear hw1_ hw2_
      replace hw0 := hd hw0
      clear hK1 hK2 hO1 hO2 hown0 hri0 hown hriy hMM HC cx0 cx1 cx2 cx3 cx4 cx5 cx6 cx7 cx8 cx9 cy0 cy1 cy2 cy3 cy4 cy5 cy6 cy7 cy8 cy9
      go_wp2_with fail
      refine wp_region_held_drew (S := (fun X => Keep [g] yB.w X)) (by kernel_rfl) ?_ (fun hHeld => ?_)
      ·exact (Keep.refl _ _).drew
      rw [hw0.out] at hHeld ⊢
      refine HeL.tk 0 ?_
      refine HeL.tk 1 ?_
      refine HeL.tk 2 ?_
      refine HeL.tk 3 ?_
      refine HeL.tk 4 ?_
      refine HeL.tk 5 ?_
      refine HeL.tk 6 ?_
      refine HeL.tk 7 ?_
      refine HeL.tk 8 ?_
      refine HeL.tk 10 ?_
      refine HeL.tk 11 ?_
      refine HeL.tk 12 ?_
      refine HeL.rd [9, 13] ?_
      refine HeL.cn (fun K hK => ?_) ?_
      ·go_simp
       refine HeL.st hK (hKw0) (fun hH2 => ?_)
       clear hK K hHeld
       have hHeld := hH2; clear hH2
       refine HeL.rd [13] ?_
       refine HeL.cn (fun K hK => ?_) AllReadyH.nil
       go_simp
       refine HeL.st hK (hKw0) (fun hH2 => ?_)
       clear hK K hHeld
       have hHeld := hH2; clear hH2
       refine HeL.tk 14 ?_
       refine HeL.rd [15] ?_
       refine HeL.cn (fun K hK => ?_) AllReadyH.nil
       rw [if_pos (by rfl)]
       refine wp_store_mid 177 _ _ rfl g (j * 10) #[.int .i64 y.m.fPid, .int .i64 y.m.fParent, .int .i64 y.m.fState, .int .i64 y.m.fProg, .int .i64 y.m.fCpu.fPc, .slice y.a1 y.m.fCpu.fRegs.length y.c1, .slice y.a2 y.m.fMem.length y.c2, .slice y.a3 y.m.fFds.length y.c3, .int .i64 y.m.fUntil, .int .i64 y.m.fCode] rfl rfl (HTH.out.1) (by kernel_rfl) (by simp [Value.oneCell']) ?_
       rw [show w0.setCells g (j * 10) (#[.int .i64 y.m.fPid, .int .i64 y.m.fParent, .int .i64 y.m.fState, .int .i64 y.m.fProg, .int .i64 y.m.fCpu.fPc, .slice y.a1 y.m.fCpu.fRegs.length y.c1, .slice y.a2 y.m.fMem.length y.c2, .slice y.a3 y.m.fFds.length y.c3, .int .i64 y.m.fUntil, .int .i64 y.m.fCode] : Array Value).toList = w1_ from HW1.out]
       refine HeL.st hK (HTH.out.2.2.1) (fun hH2 => ?_)
       clear hK K hHeld
       have hHeld := hH2; clear hH2
       refine HeL.tk 16 ?_
       refine HeL.rd [17] ?_
       refine HeL.cn (fun K hK => ?_) AllReadyH.nil
       rw [if_pos (by rfl)]
       refine wp_store_mid 177 _ _ rfl g (q * 10) #[.int .i64 x.m.fPid, .int .i64 x.m.fParent, .int .i64 x.m.fState, .int .i64 x.m.fProg, .int .i64 x.m.fCpu.fPc, .slice x.a1 x.m.fCpu.fRegs.length x.c1, .slice x.a2 x.m.fMem.length x.c2, .slice x.a3 x.m.fFds.length x.c3, .int .i64 x.m.fUntil, .int .i64 x.m.fCode] rfl rfl (HTH.out.2.1) (by kernel_rfl) (by simp [Value.oneCell']) ?_
       rw [show w1_.setCells g (q * 10) (#[.int .i64 x.m.fPid, .int .i64 x.m.fParent, .int .i64 x.m.fState, .int .i64 x.m.fProg, .int .i64 x.m.fCpu.fPc, .slice x.a1 x.m.fCpu.fRegs.length x.c1, .slice x.a2 x.m.fMem.length x.c2, .slice x.a3 x.m.fFds.length x.c3, .int .i64 x.m.fUntil, .int .i64 x.m.fCode] : Array Value).toList = w2_ from HW2.out]
       refine HeL.st hK (HTH.out.2.2.2) (fun hH2 => ?_)
       clear hK K hHeld
       have hHeld := hH2; clear hH2
       refine wpAnyH_done (by kernel_rfl) ?_ _
       go_wp2_with fail
       go_roundw
       case rel => exact ⟨A', y :: B, by rw [hq], HN⟩
       case measure => have := HJ.out; simp [intOf]; omega
      refine HeL.cn (fun K hK => ?_) ?_
      ·go_simp
       refine HeL.st hK (hKw0) (fun hH2 => ?_)
       clear hK K hHeld
       have hHeld := hH2; clear hH2
       refine HeL.rd [9] ?_
       refine HeL.cn (fun K hK => ?_) AllReadyH.nil
       go_simp
       refine HeL.st hK (hKw0) (fun hH2 => ?_)
       clear hK K hHeld
       have hHeld := hH2; clear hH2
       refine HeL.tk 14 ?_
       refine HeL.rd [15] ?_
       refine HeL.cn (fun K hK => ?_) AllReadyH.nil
       rw [if_pos (by rfl)]
       refine wp_store_mid 177 _ _ rfl g (j * 10) #[.int .i64 y.m.fPid, .int .i64 y.m.fParent, .int .i64 y.m.fState, .int .i64 y.m.fProg, .int .i64 y.m.fCpu.fPc, .slice y.a1 y.m.fCpu.fRegs.length y.c1, .slice y.a2 y.m.fMem.length y.c2, .slice y.a3 y.m.fFds.length y.c3, .int .i64 y.m.fUntil, .int .i64 y.m.fCode] rfl rfl (HTH.out.1) (by kernel_rfl) (by simp [Value.oneCell']) ?_
       rw [show w0.setCells g (j * 10) (#[.int .i64 y.m.fPid, .int .i64 y.m.fParent, .int .i64 y.m.fState, .int .i64 y.m.fProg, .int .i64 y.m.fCpu.fPc, .slice y.a1 y.m.fCpu.fRegs.length y.c1, .slice y.a2 y.m.fMem.length y.c2, .slice y.a3 y.m.fFds.length y.c3, .int .i64 y.m.fUntil, .int .i64 y.m.fCode] : Array Value).toList = w1_ from HW1.out]
       refine HeL.st hK (HTH.out.2.2.1) (fun hH2 => ?_)
       clear hK K hHeld
       have hHeld := hH2; clear hH2
       refine HeL.tk 16 ?_
       refine HeL.rd [17] ?_
       refine HeL.cn (fun K hK => ?_) AllReadyH.nil
       rw [if_pos (by rfl)]
       refine wp_store_mid 177 _ _ rfl g (q * 10) #[.int .i64 x.m.fPid, .int .i64 x.m.fParent, .int .i64 x.m.fState, .int .i64 x.m.fProg, .int .i64 x.m.fCpu.fPc, .slice x.a1 x.m.fCpu.fRegs.length x.c1, .slice x.a2 x.m.fMem.length x.c2, .slice x.a3 x.m.fFds.length x.c3, .int .i64 x.m.fUntil, .int .i64 x.m.fCode] rfl rfl (HTH.out.2.1) (by kernel_rfl) (by simp [Value.oneCell']) ?_
       rw [show w1_.setCells g (q * 10) (#[.int .i64 x.m.fPid, .int .i64 x.m.fParent, .int .i64 x.m.fState, .int .i64 x.m.fProg, .int .i64 x.m.fCpu.fPc, .slice x.a1 x.m.fCpu.fRegs.length x.c1, .slice x.a2 x.m.fMem.length x.c2, .slice x.a3 x.m.fFds.length x.c3, .int .i64 x.m.fUntil, .int .i64 x.m.fCode] : Array Value).toList = w2_ from HW2.out]
       refine HeL.st hK (HTH.out.2.2.2) (fun hH2 => ?_)
       clear hK K hHeld
       have hHeld := hH2; clear hH2
       refine wpAnyH_done (by kernel_rfl) ?_ _
       go_wp2_with fail
       go_roundw
       case rel => exact ⟨A', y :: B, by rw [hq], HN⟩
       case measure => have := HJ.out; simp [intOf]; omega
      exact AllReadyH.nil
     ·obtain ⟨s, hs⟩ : ∃ s, sg x.m.fPid y.m.fPid = s := ⟨_, rfl⟩
      have hs0 : ¬ s < 0 := by rw [← hs]; unfold sg; rw [if_neg hlt2]; split <;> simp
      have hs1 : decide (s < 0) = false := by simpa using hs0
      rw [hs] at HC
      have HB2 : Hid (Big w wr g c n its (k + 1) (A' ++ [y] ++ x :: B)) := hd (Big.next HF.out HS.out HPm.out HX.out hMM.out (by
       have h1 := HS.out
       rw [← hMM.out.app] at h1
       intro z hz
       have h2 := last_le (A := A'.map It.m) (y := y.m) (x := x.m) (by have := srt_pre (A := (A' ++ [y]).map It.m) (B := B.map It.m) (by rw [← List.map_append]; exact h1); simpa using this) (by omega)
       exact h2 z.m (by have := List.mem_map_of_mem (f := It.m) hz; simpa using this)))
      clear hlt2 hs
      go_wp2_with fail
      rw [← hx0.out]
      refine region_in _ (by kernel_rfl) (by kernel_rfl) (fun hne => ?_)
      repeat (go_big_quiet_step ((go_at_call 140; exact HC.out _)))
      refine wpQuiet_nil ?_
      rintro _ ⟨yB, rfl⟩
      have HB3 : Hid (Big w yB.w g c n its (k + 1) (A' ++ [y] ++ x :: B)) := hd ⟨HB2.out.ri.below yB.ok, HB2.out.fold, HB2.out.srt, HB2.out.perm, HB2.out.kp.trans (Keep.of_below _ yB.ok)⟩
      clear HB2 hMM HC
      go_wp2_with fail
      go_roundw
      case rel => exact ⟨k + 1, _, by go_num, by omega, by omega, HB3⟩
      case measure => simp [intOf]; omega
  ·have hB' := hB.out
   have e1 : its.drop k = [] := by rw [List.drop_eq_nil_iff, HLN.out]; omega
   have e2 : its.take k = its := List.take_of_length_le (by rw [HLN.out]; omega)
   have HFIN : Hid (∃ its', RI wr g c n its' ∧ its'.map It.m = (its.map It.m).foldl insP [] ∧ its'.Perm its ∧ Keep [g] w wr) := hd ⟨S, by have := hB'.ri; rw [e1] at this; simpa using this, by have := hB'.fold; rw [e2] at this; exact this, by have := hB'.perm; rw [e2] at this; exact this, hB'.kp⟩
   clear hB hB' e1 e2
   go_wp2
   go_end0
   exact ⟨rfl, HFIN.out⟩
end Go.Proofs.YtoeolfegmklbaaaGreat.ArQ
