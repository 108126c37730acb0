/- Chapter 15, impl's side: what only reads. Condition: none. -/
import Derived.Test.YtpgigoddjidfdaaBuG
import Derived.Test.YtpgigoddjidfdaaIpI
import Derived.BigQuiet
namespace Go.Proofs.Ytpgigoddjidfdaa.BuJ
open Go.RowKit Go.Deep Num RowC TyA TyM TyB TyR TyF TyP TyT BuS BuC TyV BuD BuE BuG IpI
set_option maxRecDepth 100000
set_option linter.unusedVariables false
set_option linter.unusedSimpArgs false

theorem qs {P : Program} {f : FuncId} {args : Array Value} {w : World} {n : Nat} {v : Value} (h : Calls P f args (w.drewN n) fun e w' => e = .returned v ∧ w.drewN n = w') : Calls P f args (w.drewN n) fun e w'' => e = .returned v ∧ ∃ m, w'' = w.drewN m := h.mono fun _ _ ⟨he, hm⟩ => ⟨he, n, hm.symm⟩
theorem bdn (w : World) (n : Nat) : Below w.heap.size w (w.drewN n) := ⟨rfl, rfl, rfl, Nat.le_refl _, fun _ _ => rfl⟩
theorem lengthOf_any (o : Nat) (w : World) (h : o ≤ 4) : Calls Try.prog 37 #[.int .i64 o] w fun e w' => e = .returned (.int .i64 ((2 ^ o : Nat) : Int)) ∧ w = w' := by
  rcases (by omega : o = 0 ∨ o = 1 ∨ o = 2 ∨ o = 3 ∨ o = 4) with rfl | rfl | rfl | rfl | rfl
  all_goals
    go_enter Try.func37, Try.ntmps37
    go_wp2
    go_ret
    exact ⟨by kernel_rfl, rfl⟩
theorem itself_any (n : Int) (w : World) : Calls Try.prog 34 #[.int .i64 n] w fun e w' => e = .returned (.int .i64 n) ∧ w = w' := by
  go_enter Try.func34, Try.ntmps34
  go_wp2
  go_ret
  exact ⟨rfl, rfl⟩
def inI (n a b : Int) : Bool := decide (a ≤ n) && decide (n ≤ b)
theorem between_any (n a b : Int) (w : World) : Calls Try.prog 60 #[.int .i64 n, .int .i64 a, .int .i64 b] w fun e w' => e = .returned (.bool (inI n a b)) ∧ w = w' := by
  by_cases c1 : a ≤ n
  · have d1 : decide (a ≤ n) = true := by simp [c1]
    go_enter Try.func60, Try.ntmps60
    go_wp2
    go_ret
    exact ⟨by simp [inI, c1], rfl⟩
  · have d1 : decide (a ≤ n) = false := by simp; omega
    go_enter Try.func60, Try.ntmps60
    go_wp2
    go_ret
    exact ⟨by unfold inI; rw [d1]; rfl, rfl⟩
theorem isFrame_any (f : Int) (w : World) : Calls Try.prog 41 #[.int .i64 f] w fun e w' => e = .returned (.bool (decide (0 ≤ f) && decide (f < 16))) ∧ w = w' := by
  have hb := fun w => between_any f 0 15 w
  have e1 : inI f 0 15 = (decide (0 ≤ f) && decide (f < 16)) := by unfold inI; rw [show decide (f ≤ 15) = decide (f < 16) from decide_eq_decide.2 (by omega)]
  rw [e1] at hb
  clear e1
  go_enter Try.func41, Try.ntmps41
  go_wp2_with (go_at_call 60; refine (hb _).mono ?_; rintro e w' ⟨rfl, rfl⟩)
  go_ret
  exact ⟨rfl, rfl⟩
theorem buddyOf_any (f : Int) (o : Nat) (w : World) (h0 : 0 ≤ f) (h1 : f < 16) (ho : o ≤ 4) (hm : f % ((2 ^ o : Nat) : Int) = 0) : Calls Try.prog 61 #[.int .i64 f, .int .i64 o] w fun e w' => e = .returned (.int .i64 (other o f)) ∧ w = w' := by
  have hL := fun w => lengthOf_any o w ho
  rcases (by omega : o = 0 ∨ o = 1 ∨ o = 2 ∨ o = 3 ∨ o = 4) with rfl | rfl | rfl | rfl | rfl <;> rcases (by omega : f = 0 ∨ f = 1 ∨ f = 2 ∨ f = 3 ∨ f = 4 ∨ f = 5 ∨ f = 6 ∨ f = 7 ∨ f = 8 ∨ f = 9 ∨ f = 10 ∨ f = 11 ∨ f = 12 ∨ f = 13 ∨ f = 14 ∨ f = 15) with rfl | rfl | rfl | rfl | rfl | rfl | rfl | rfl | rfl | rfl | rfl | rfl | rfl | rfl | rfl | rfl <;> first
    | exact absurd hm (by decide)
    | (go_enter Try.func61, Try.ntmps61
       go_wp2_with (go_at_call 37; refine (hL _).mono ?_; rintro e w' ⟨rfl, rfl⟩)
       go_ret
       exact ⟨by kernel_rfl, rfl⟩)
theorem any_not {α : Type} (f : α → Bool) (l : List α) (k : Nat) (h : l.length = k) (ha : (l.take k).all (fun x => !f x) = true) : l.any f = false := by
  rw [← h, List.take_length] at ha
  rw [List.any_eq_false]
  intro x hx
  have := List.all_eq_true.1 ha x hx
  simpa using this
theorem any_yes {α : Type} (f : α → Bool) (l : List α) (k : Nat) (x : α) (h : l[k]? = some x) (hf : f x = true) : l.any f = true := List.any_eq_true.2 ⟨x, List.mem_of_getElem? h, hf⟩
theorem all_any_not {α : Type} (g : α → Bool) (l : List α) : (!(l.any fun x => !g x)) = l.all g := by
  induction l with
  | nil => rfl
  | cons x l ih => rw [List.any_cons, List.all_cons, ← ih]; cases g x <;> simp
theorem index_any (v : Value) (l : List Int) (b : List Nat) (n : Int) (w : World) (hl : l.length ≤ 1100020) (h : OIntS w v l b) :
    Calls Try.prog 79 #[v, .int .i64 n] w fun e w' => ∃ r : Int, e = .returned (.int .i64 r) ∧ Hid (decide (0 ≤ r) = hasB l n) ∧ w = w' := by
  have HR := hd (so_cases h)
  obtain ⟨a, c, rfl⟩ := gv_IntS.slice h
  clear h
  go_enter Try.func79, Try.ntmps79
  go_wp2_with fail
  go_loop [8] (fun i => ∃ k : Nat, k ≤ l.length ∧ i = .int .i64 k ∧ Hid ((l.take k).all (fun x => !decide (x = n)) = true)) (fun i => l.length - (intOf i).toNat)
  case atStart => exact ⟨0, Nat.zero_le _, rfl, hd rfl⟩
  case round =>
    obtain ⟨k, hk, rfl, hall⟩ := hrel
    by_cases hlt : k < l.length
    · obtain ⟨x, hx⟩ : ∃ x, l[k]? = some x := ⟨l[k], by simp [hlt]⟩
      obtain ⟨g, d0, rfl⟩ : ∃ g, w.cell? ⟨g, k, none⟩ = some (.int .i64 x) ∧ a = some ⟨g, 0, none⟩ := by
        rcases HR.out with ⟨hh, h0, _⟩ | ⟨g, cap, hh, _, _, _, hc⟩
        · rw [h0] at hlt; simp at hlt
        · simp at hh; exact ⟨g, hc k x hx, hh.1⟩
      have hk0 : (0 : Int) ≤ k := by omega
      have hk1 : (k : Int) < l.length := by omega
      by_cases e1 : x = n
      · have e1' : (n == x) = true := by simp [e1]
        have HA : Hid (hasB l n = true) := hd (any_yes (fun x => decide (x = n)) l k x hx (by simp [e1]))
        clear e1 hx
        go_wp2
        go_ret
        exact ⟨k, rfl, hd (by rw [HA.out]; simp), rfl⟩
      · have e1' : (n == x) = false := by simp; omega
        have HA := hd (all_step' (fun x => !decide (x = n)) l k x hx hall.out (by simp [e1]))
        clear e1 hx
        go_wp2
        go_round
        case rel => exact ⟨k + 1, by omega, by go_num, HA⟩
        case measure => simp [intOf]; omega
    · obtain rfl : k = l.length := by omega
      have HA : Hid (hasB l n = false) := hd (any_not (fun x => decide (x = n)) l _ rfl hall.out)
      go_wp2
      go_ret
      exact ⟨-1, rfl, hd (by rw [HA.out]; rfl), rfl⟩
theorem contains_any (v : Value) (l : List Int) (b : List Nat) (n : Int) (w : World) (hl : l.length ≤ 1100020) (h : OIntS w v l b) :
    Calls Try.prog 59 #[v, .int .i64 n] w fun e w' => e = .returned (.bool (hasB l n)) ∧ w = w' := by
  have H := hd (index_any v l b n w hl h)
  obtain ⟨a, c, rfl⟩ := gv_IntS.slice h
  clear h
  go_enter Try.func59, Try.ntmps59
  go_wp2_with (go_at_call 79; fail)
  refine H.out.mono ?_
  rintro e w1 ⟨r, rfl, hr, rfl⟩
  go_wp2
  go_ret
  exact ⟨by rw [← hr.out]; rfl, rfl⟩
/-- How many of the first orders have a block with frame f. -/
def cntN (L : List (List Int)) (f : Int) : Nat → Nat
  | 0 => 0
  | o + 1 => cntN L f o + (if hasB (L.getD o []) (f - f % ((2 ^ o : Nat) : Int)) then 1 else 0)
theorem cntN_le (L : List (List Int)) (f : Int) : ∀ o, cntN L f o ≤ o
  | 0 => Nat.le_refl _
  | o + 1 => by unfold cntN; have := cntN_le L f o; split <;> omega
theorem getD_at {L : List (List Int)} {k : Nat} {l : List Int} (h : L[k]? = some l) : L.getD k [] = l := by rw [List.getD_eq_getElem?_getD, h]; rfl
theorem blocksWith_any (pv : Option Addr) (c : Nat) (L : List (List Int)) (bs : List Nat) (f : Int) (B : Nat) (w : World) (hL : L.length = 5) (hl : ∀ l ∈ L, l.length ≤ 1100020) (h : OIntSS w (.slice pv L.length c) L bs) (h0 : 0 ≤ f) (h1 : f < 16) (hB : w.cell? ⟨B, 0, none⟩ = some (.slice pv L.length c)) :
    Calls Try.prog 40 #[.pointer (some ⟨B, 0, none⟩), .int .i64 f] w fun e w' => e = .returned (.int .i64 (cntN L f 5 : Nat)) ∧ w = w' := by
  have HR := hd h
  have HLL := hd hl
  clear h hl
  go_enter Try.func40, Try.ntmps40
  go_wp2_with fail
  go_loop [5, 13] (fun n i => ∃ k : Nat, k ≤ L.length ∧ i = .int .i64 k ∧ n = .int .i64 (cntN L f k : Nat)) (fun _ i => L.length - (intOf i).toNat)
  case atStart => exact ⟨0, Nat.zero_le _, rfl, rfl⟩
  case round =>
    obtain ⟨k, hk, rfl, rfl⟩ := hrel
    by_cases hlt : k < L.length
    · obtain ⟨l, hlo⟩ : ∃ l, L[k]? = some l := ⟨L[k], by simp [hlt]⟩
      obtain ⟨g, rfl⟩ : ∃ g, pv = some ⟨g, 0, none⟩ := by
        rcases HR.out.cases with ⟨hh, h9, _⟩ | ⟨g, cap, hh, _⟩
        · rw [h9] at hlt; simp at hlt
        · simp at hh; exact ⟨g, hh.1⟩
      obtain ⟨u, bu, hcu, hou, hbu⟩ := Row.elem HR.out hlo
      have hlen : l.length ≤ 1100020 := HLL.out l (List.mem_of_getElem? hlo)
      have hLO := fun w => lengthOf_any k w (by omega)
      have hmod := tmod_pos f (2 ^ k) h0
      obtain ⟨n2, hn2⟩ : ∃ n2 : Nat, 2 ^ k = n2 := ⟨_, rfl⟩
      have hn0 : ((n2 : Int) == 0) = false := by have : 0 < 2 ^ k := Nat.two_pow_pos k; simp; omega
      have hn1 : ¬ n2 = 0 := by have : 0 < 2 ^ k := Nat.two_pow_pos k; omega
      have hr0 : 0 ≤ f % (n2 : Int) := Int.emod_nonneg _ (by have : 0 < 2 ^ k := Nat.two_pow_pos k; omega)
      have hr1 : f % (n2 : Int) ≤ f := by have := Int.mul_ediv_add_emod f n2; have h3 : 0 ≤ (n2 : Int) * (f / n2) := Int.mul_nonneg (by omega) (Int.ediv_nonneg h0 (by omega)); omega
      have HC := hd (contains_any u l bu (f - f % (n2 : Int)) w hlen hou)
      have HN : Hid (cntN L f (k + 1) = cntN L f k + (if hasB l (f - f % (n2 : Int)) then 1 else 0)) := hd (by show cntN L f k + _ = _; rw [getD_at hlo, hn2])
      rw [hn2] at hLO hmod
      obtain ⟨r2, hr2⟩ : ∃ r2, f % (n2 : Int) = r2 := ⟨_, rfl⟩
      rw [hr2] at hr0 hr1 HC HN hmod
      have hk0 : (0 : Int) ≤ k := by omega
      have hk1 : (k : Int) < L.length := by omega
      have hcl := cntN_le L f k
      obtain ⟨cn, hcn⟩ : ∃ cn, cntN L f k = cn := ⟨_, rfl⟩
      rw [hcn] at HN hcl ⊢
      obtain ⟨au, cu, rfl⟩ := gv_IntS.slice hou
      clear hou hlo hn2 hr2 hcn
      cases q : hasB l (f - r2)
      · rw [q] at HC HN
        go_wp2_with (first
          | (go_at_call 37; refine (hLO _).mono ?_; rintro e w' ⟨rfl, rfl⟩)
          | (go_at_call 59; refine HC.out.mono ?_; rintro e w' ⟨rfl, rfl⟩))
        exact ⟨⟨k + 1, by omega, by go_num, by rw [HN.out]; rfl⟩, by simp [intOf]; omega⟩
      · rw [q] at HC HN
        go_wp2_with (first
          | (go_at_call 37; refine (hLO _).mono ?_; rintro e w' ⟨rfl, rfl⟩)
          | (go_at_call 59; refine HC.out.mono ?_; rintro e w' ⟨rfl, rfl⟩))
        exact ⟨⟨k + 1, by omega, by go_num, by rw [HN.out]; rfl⟩, by simp [intOf]; omega⟩
    · have hk5 : k = 5 := by omega
      subst hk5
      go_wp2
      go_ret
      exact ⟨rfl, rfl⟩
/-- Numbers that rise, within bounds. -/
def risesB (hi : Int) : Int → List Int → Bool
  | _, [] => true
  | lo, x :: l => inI x lo hi && risesB hi (x + 1) l
theorem rises_step {hi lo : Int} {l : List Int} {k : Nat} {x : Int} (h : l[k]? = some x) : risesB hi lo (l.drop k) = (inI x lo hi && risesB hi (x + 1) (l.drop (k + 1))) := by
  obtain ⟨hk, rfl⟩ := List.getElem?_eq_some_iff.1 h
  rw [List.drop_eq_getElem_cons hk]
  rfl
theorem inI_spec {x a c : Int} (h : inI x a c = true) : a ≤ x ∧ x ≤ c := by
  unfold inI at h
  simpa using h
set_option maxHeartbeats 1000000 in
theorem rises_any (v : Value) (l : List Int) (b : List Nat) (lo hi : Int) (w : World) (hs : l.length ≤ 1100020) (hlo : 0 ≤ lo) (hhi : hi ≤ 1000000) (h : OIntS w v l b) :
    Calls Try.prog 64 #[v, .func (.func 34) #[] #[], .int .i64 lo, .int .i64 hi] w fun e w' => e = .returned (.bool (risesB hi lo l)) ∧ w = w' := by
  have HR := hd (so_cases h)
  obtain ⟨a, c, rfl⟩ := gv_IntS.slice h
  obtain ⟨r, hr⟩ : ∃ r, risesB hi lo l = r := ⟨_, rfl⟩
  rw [hr]
  replace hr := hd hr
  have hB := fun n a w => between_any n a hi w
  clear h
  go_enter Try.func64, Try.ntmps64
  go_wp2_with fail
  go_loop [2, 14] (fun lv i => ∃ (k : Nat) (m : Int), k ≤ l.length ∧ i = .int .i64 k ∧ lv = .int .i64 m ∧ 0 ≤ m ∧ Hid (risesB hi m (l.drop k) = r)) (fun _ i => l.length - (intOf i).toNat)
  case atStart => exact ⟨0, lo, Nat.zero_le _, rfl, rfl, hlo, hr⟩
  case round =>
    obtain ⟨k, m, hk, rfl, rfl, hm, hrr⟩ := hrel
    by_cases hlt : k < l.length
    · obtain ⟨p, hp⟩ : ∃ x, l[k]? = some x := ⟨l[k], by simp [hlt]⟩
      obtain ⟨g, d0, rfl⟩ : ∃ g, w.cell? ⟨g, k, none⟩ = some (.int .i64 p) ∧ a = some ⟨g, 0, none⟩ := by
        rcases HR.out with ⟨hh, h0, _⟩ | ⟨g, cap, hh, _, _, _, hc⟩
        · rw [h0] at hlt; simp at hlt
        · simp at hh; exact ⟨g, hc k p hp, hh.1⟩
      have HS := hd (hrr.out.symm.trans (rises_step hp))
      have hk0 : (0 : Int) ≤ k := by omega
      have hk1 : (k : Int) < l.length := by omega
      clear hp hrr hr
      cases q : inI p m hi
      · have HE : Hid (r = false) := hd (by rw [HS.out, q]; rfl)
        clear HS
        go_wp2_with (first
          | (go_at_call 34; refine (itself_any _ _).mono ?_; rintro e w1 ⟨rfl, rfl⟩)
          | (go_at_call 60; refine (hB _ _ _).mono ?_; rintro e w' ⟨rfl, rfl⟩))
        go_ret
        exact ⟨by rw [HE.out]; rfl, rfl⟩
      · have HE : Hid (risesB hi (p + 1) (l.drop (k + 1)) = r) := hd (by rw [HS.out, q]; rfl)
        have hq := inI_spec q
        have hm2 : 0 ≤ p + 1 := by omega
        have hm3 : p + 1 ≤ 1000001 := by omega
        clear HS
        go_wp2_with (first
          | (go_at_call 34; refine (itself_any _ _).mono ?_; rintro e w1 ⟨rfl, rfl⟩)
          | (go_at_call 60; refine (hB _ _ _).mono ?_; rintro e w' ⟨rfl, rfl⟩))
        go_round
        case rel => exact ⟨k + 1, p + 1, by omega, by go_num, by first | rfl | go_num, hm2, HE⟩
        case measure => simp [intOf]; omega
    · obtain rfl : k = l.length := by omega
      have HE : Hid (r = true) := hd (by have := hrr.out; rw [List.drop_length] at this; exact this.symm)
      go_wp2
      go_ret
      exact ⟨by rw [HE.out]; rfl, rfl⟩

/-- Where the first one stands that is asked for; -1 where none does. -/
def Fnd (g : Int → Bool) (l : List Int) (r : Int) : Prop := (∃ (k : Nat) (x : Int), l[k]? = some x ∧ g x = true ∧ (∀ y ∈ l.take k, g y = false) ∧ r = k) ∨ ((∀ y ∈ l, g y = false) ∧ r = -1)
theorem fnd_yes {g : Int → Bool} {l : List Int} {k : Nat} {x : Int} (h : l[k]? = some x) (hg : g x = true) (ha : (l.take k).all (fun x => !g x) = true) : Fnd g l (k : Int) := .inl ⟨k, x, h, hg, fun y hy => by have := List.all_eq_true.1 ha y hy; simpa using this, rfl⟩
theorem fnd_no {g : Int → Bool} {l : List Int} (h : l.any g = false) : Fnd g l (-1) := .inr ⟨fun y hy => by have := List.any_eq_false.1 h y hy; simpa using this, rfl⟩
theorem fnd_any {g : Int → Bool} {l : List Int} {r : Int} (h : Fnd g l r) : decide (0 ≤ r) = l.any g := by
  rcases h with ⟨k, x, h1, h2, _, rfl⟩ | ⟨h1, rfl⟩
  · rw [any_yes g l k x h1 h2]; simp
  · have : l.any g = false := List.any_eq_false.2 (fun y hy => by simp [h1 y hy])
    rw [this]; rfl

set_option maxHeartbeats 1000000 in
/-- slices.IndexFunc of numbers: where the first one that is asked for stands. -/
theorem idxAll (v : Value) (l : List Int) (b : List Nat) (g : Int → Bool) (B : Nat) (w : World) (hs : l.length ≤ 1100020) (h : OIntS w v l b) (hF : ∀ X, Below w.heap.size w X → ∀ (i : Nat) (x : Int), l[i]? = some x → Calls Try.prog 81 #[.int .i64 x, .pointer (some ⟨B, 0, none⟩)] X fun e w' => e = .returned (.bool (g x)) ∧ Below X.heap.size X w') :
    Calls Try.prog 75 #[v, .func (.func 81) #[] #[.pointer (some ⟨B, 0, none⟩)]] w fun e w' => ∃ r : Int, e = .returned (.int .i64 r) ∧ Hid (Fnd g l r) ∧ Below w.heap.size w w' := by
  obtain ⟨a, c, rfl⟩ := gv_IntS.slice h
  have HR := hd h
  have HF := hd hF
  clear h hF
  go_enter Try.func75, Try.ntmps75
  go_wp2_with fail
  go_loopw [8] (fun i wr => ∃ k : Nat, k ≤ l.length ∧ i = .int .i64 k ∧ Hid ((l.take k).all (fun x => !g x) = true) ∧ Below w.heap.size w wr) (fun i _ => l.length - (intOf i).toNat)
  case atStart => exact ⟨0, Nat.zero_le _, rfl, hd rfl, Below.refl _ _⟩
  case round =>
    obtain ⟨k, hk, rfl, hall, hbel⟩ := hrel
    by_cases hlt : k < l.length
    · obtain ⟨x, hp⟩ : ∃ x, l[k]? = some x := ⟨l[k], by simp [hlt]⟩
      obtain ⟨g0, rfl, c0⟩ : ∃ g0, a = some ⟨g0, 0, none⟩ ∧ wr.cell? ⟨g0, k, none⟩ = some (.int .i64 x) := by
        rcases so_cases (gv_IntS.below HR.out hbel) with ⟨hh, h0, _⟩ | ⟨g0, cap, hh, _, _, _, hcc⟩
        · rw [h0] at hlt; simp at hlt
        · simp at hh; exact ⟨g0, hh.1, hcc k x hp⟩
      have HM := hd (HF.out wr hbel k x hp)
      have hk0 : (0 : Int) ≤ k := by omega
      have hk1 : (k : Int) < l.length := by omega
      cases hg : g x
      · have HA := hd (all_step' (fun x => !g x) l k x hp hall.out (by simp [hg]))
        rw [hg] at HM
        clear hg hp
        go_wp2_with (go_at_call 81; refine HM.out.mono ?_; rintro e w1 ⟨rfl, hb1⟩)
        go_roundw
        case rel => exact ⟨k + 1, by omega, by go_num, HA, hbel.trans (hb1.mono hbel.size)⟩
        case measure => simp [intOf]; omega
      · have HA := hd (fnd_yes hp hg hall.out)
        rw [hg] at HM
        clear hg hp
        go_wp2_with (go_at_call 81; refine HM.out.mono ?_; rintro e w1 ⟨rfl, hb1⟩)
        go_ret
        exact ⟨k, rfl, HA, hbel.trans (hb1.mono hbel.size)⟩
    · obtain rfl : k = l.length := by omega
      have HA := hd (fnd_no (any_not g l _ rfl hall.out))
      go_wp2
      go_ret
      exact ⟨-1, rfl, HA, hbel⟩

theorem hasAll (v : Value) (l : List Int) (b : List Nat) (g : Int → Bool) (B : Nat) (w : World) (hs : l.length ≤ 1100020) (h : OIntS w v l b) (hF : ∀ X, Below w.heap.size w X → ∀ (i : Nat) (x : Int), l[i]? = some x → Calls Try.prog 81 #[.int .i64 x, .pointer (some ⟨B, 0, none⟩)] X fun e w' => e = .returned (.bool (g x)) ∧ Below X.heap.size X w') :
    Calls Try.prog 80 #[v, .func (.func 81) #[] #[.pointer (some ⟨B, 0, none⟩)]] w fun e w' => e = .returned (.bool (l.any g)) ∧ Below w.heap.size w w' := by
  have H := hd (idxAll v l b g B w hs h hF)
  obtain ⟨a, c, rfl⟩ := gv_IntS.slice h
  clear h hF
  go_enter Try.func80, Try.ntmps80
  go_wp2_with (go_at_call 75; fail)
  refine H.out.mono ?_
  rintro e w1 ⟨r, rfl, hr, hb1⟩
  go_wp2
  go_ret
  exact ⟨by rw [← fnd_any hr.out]; rfl, hb1⟩
theorem cloAll (x : Int) (C1 C2 : Nat) (q : Bool) (B : Nat) (w : World) (hB : B < w.heap.size) (hc : w.cell? ⟨B, 0, none⟩ = some (.func (.func 66) #[] #[.pointer (some ⟨C1, 0, none⟩), .pointer (some ⟨C2, 0, none⟩)]))
    (hF : Calls Try.prog 66 #[.int .i64 x, .pointer (some ⟨C1, 0, none⟩), .pointer (some ⟨C2, 0, none⟩)] w fun e w' => e = .returned (.bool q) ∧ Below w.heap.size w w') :
    Calls Try.prog 81 #[.int .i64 x, .pointer (some ⟨B, 0, none⟩)] w fun e w' => e = .returned (.bool (!q)) ∧ Below w.heap.size w w' := by
  have H := hd hF
  clear hF
  go_enter Try.func81, Try.ntmps81
  go_wp2_with (go_at_call 66; refine H.out.mono ?_; rintro e w1 ⟨rfl, hb1⟩)
  go_ret
  exact ⟨rfl, hb1⟩
theorem allFirsts (v : Value) (l : List Int) (b : List Nat) (g : Int → Bool) (C1 C2 : Nat) (w : World) (hs : l.length ≤ 1100020) (h : OIntS w v l b) (hF : ∀ X, Below w.heap.size w X → ∀ (i : Nat) (x : Int), l[i]? = some x → Calls Try.prog 66 #[.int .i64 x, .pointer (some ⟨C1, 0, none⟩), .pointer (some ⟨C2, 0, none⟩)] X fun e w' => e = .returned (.bool (g x)) ∧ Below X.heap.size X w') :
    Calls Try.prog 65 #[v, .func (.func 66) #[] #[.pointer (some ⟨C1, 0, none⟩), .pointer (some ⟨C2, 0, none⟩)]] w fun e w' => e = .returned (.bool (l.all g)) ∧ Below w.heap.size w w' := by
  obtain ⟨W, hW⟩ : ∃ W, w.alloc (.cells #[.func (.func 66) #[] #[.pointer (some ⟨C1, 0, none⟩), .pointer (some ⟨C2, 0, none⟩)]] 57) = W := ⟨_, rfl⟩
  have hb0 : Below w.heap.size w W := by rw [← hW]; exact (Below.refl _ w).alloc (Nat.le_refl _) _
  have e0 : W.heap[w.heap.size]? = some (.cells #[.func (.func 66) #[] #[.pointer (some ⟨C1, 0, none⟩), .pointer (some ⟨C2, 0, none⟩)]] 57 (0, 0)) := by rw [← hW]; exact heap_alloc_new w _
  have hlt0 := (Array.getElem?_eq_some_iff.1 e0).1
  have c0 : W.cell? ⟨w.heap.size, 0, none⟩ = some (.func (.func 66) #[] #[.pointer (some ⟨C1, 0, none⟩), .pointer (some ⟨C2, 0, none⟩)]) := by rw [cell_of_row W _ 0 _ _ (0, 0) e0]; rfl
  have H := hd (hasAll v l b (fun x => !g x) w.heap.size W hs (gv_IntS.below h hb0) (fun X hX i x hx => cloAll x C1 C2 (g x) w.heap.size X (Nat.lt_of_lt_of_le hlt0 hX.size) ((hX.cell (p := ⟨w.heap.size, 0, none⟩) hlt0).trans c0) (hF X (hb0.trans (hX.mono hb0.size)) i x hx)))
  obtain ⟨a, c, rfl⟩ := gv_IntS.slice h
  have HQ := hd (all_any_not g l)
  obtain ⟨q, hq⟩ : ∃ q, (l.any fun x => !g x) = q := ⟨_, rfl⟩
  rw [hq] at H HQ
  rw [← HQ.out]
  clear h hF hq
  go_enter Try.func65, Try.ntmps65
  go_wp2_with fail
  try rw [hW]
  go_wp2_with (go_at_call 80; refine H.out.mono ?_; rintro e w1 ⟨rfl, hb1⟩)
  go_ret
  exact ⟨rfl, hb0.trans (hb1.mono hb0.size)⟩
/-- What is asked of each block of an order. -/
def blkB (o : Nat) (l : List Int) (f : Int) : Bool := decide (f % ((2 ^ o : Nat) : Int) = 0) && !hasB l (other o f)
theorem firstClo (v : Value) (l : List Int) (b : List Nat) (o : Nat) (f : Int) (C1 C2 : Nat) (w : World) (hs : l.length ≤ 1100020) (h : OIntS w v l b) (h0 : 0 ≤ f) (h1 : f < 16) (ho : o ≤ 4) (hc1 : w.cell? ⟨C1, 0, none⟩ = some (.int .i64 o)) (hc2 : w.cell? ⟨C2, 0, none⟩ = some v) :
    Calls Try.prog 66 #[.int .i64 f, .pointer (some ⟨C1, 0, none⟩), .pointer (some ⟨C2, 0, none⟩)] w fun e w' => e = .returned (.bool (blkB o l f)) ∧ Below w.heap.size w w' := by
  have hLO := fun w => lengthOf_any o w ho
  have hmod := tmod_pos f (2 ^ o) h0
  have HBU := hd (fun (X : World) (hm : f % ((2 ^ o : Nat) : Int) = 0) => buddyOf_any f o X h0 h1 ho hm)
  have HC := hd (fun (X : World) (hX : Below w.heap.size w X) => contains_any v l b (other o f) X hs (gv_IntS.below h hX))
  unfold blkB
  obtain ⟨n2, hn2⟩ : ∃ n2 : Nat, 2 ^ o = n2 := ⟨_, rfl⟩
  have hn0 : ((n2 : Int) == 0) = false := by have : 0 < 2 ^ o := Nat.two_pow_pos o; simp; omega
  have hn1 : ¬ n2 = 0 := by have : 0 < 2 ^ o := Nat.two_pow_pos o; omega
  rw [hn2] at hLO hmod HBU ⊢
  obtain ⟨r2, hr2⟩ : ∃ r2, f % (n2 : Int) = r2 := ⟨_, rfl⟩
  rw [hr2] at hmod HBU ⊢
  obtain ⟨y, hy⟩ : ∃ y, other o f = y := ⟨_, rfl⟩
  rw [hy] at HBU HC ⊢
  obtain ⟨a, c, rfl⟩ := gv_IntS.slice h
  clear hr2 hn2 hy h
  by_cases hz : r2 = 0
  · have hz' : (r2 == 0) = true := by simp [hz]
    have HB2 := hd (fun X => HBU.out X hz)
    obtain ⟨q, hq⟩ : ∃ q, hasB l y = q := ⟨_, rfl⟩
    rw [hq] at HC ⊢
    clear HBU hq
    subst hz
    go_enter Try.func66, Try.ntmps66
    go_wp2_with fail
    go_quiet (first
      | (go_at_call 37; exact qs (hLO _))
      | (go_at_call 61; exact qs (HB2.out _))
      | (go_at_call 59; exact qs (HC.out _ (bdn _ _))))
    go_wp2
    go_ret
    exact ⟨by simp, bdn _ _⟩
  · have hz' : (r2 == 0) = false := by simp [hz]
    clear HBU HC
    go_enter Try.func66, Try.ntmps66
    go_wp2_with fail
    go_quiet ((go_at_call 37; exact qs (hLO _)))
    go_wp2
    go_ret
    exact ⟨by simp [hz], bdn _ _⟩

end Go.Proofs.Ytpgigoddjidfdaa.BuJ
