/- Lists of numbers of one's own: slices.Insert of one number, slices.Delete of one, in place. Condition: none. -/
import Derived.Test.YtpgigoddjidfdaaTyB
import Derived.Test.YtpgigoddjidfdaaTyV
import Derived.Ground.Names2Prog
import Derived.Shelf.Slices.Delete
import Derived.Shelf.Spec.SlicesInsert
import Derived.Shelf.Spec.SlicesInsertGrow
namespace Go.Proofs.Ytpgigoddjidfdaa.IpI
open Go.RowKit Go.Deep Num RowC TyA TyM TyB
set_option maxRecDepth 100000
set_option linter.unusedVariables false
set_option linter.unusedSimpArgs false

def renI : Go.Shelf.Ren := ⟨fun | 21 => 78 | 27 => 82 | 28 => 83 | 35 => 84 | 39 => 85 | n => n, fun | 22 => 35 | 3 => 3 | 4 => 4 | 0 => 0 | n => n, fun | n => n⟩
theorem layI : Go.Proofs.Lays2.n21 Try.prog renI := {
  mixed := by kernel_rfl
  f21 := Try.func78.trans (congrArg some (by kernel_rfl))
  f27 := Try.func82.trans (congrArg some (by kernel_rfl))
  f28 := Try.func83.trans (congrArg some (by kernel_rfl))
  f35 := Try.func84.trans (congrArg some (by kernel_rfl))
  f39 := Try.func85.trans (congrArg some (by kernel_rfl))
  t0 := Try.underlying0
  a0 := Try.isAgg0
  z0 := Try.sizeOf0
  v0 := Try.zeroValue0
  t3 := Try.underlying3
  a3 := Try.isAgg3
  z3 := Try.sizeOf3
  v3 := Try.zeroValue3
  t4 := Try.underlying4
  a4 := Try.isAgg4
  z4 := Try.sizeOf4
  v4 := Try.zeroValue4
  t22 := Try.underlying35
  a22 := Try.isAgg35
  z22 := Try.sizeOf35
  v22 := Try.zeroValue35
  i3 := by kernel_rfl }
def renD : Go.Shelf.Ren := ⟨fun | 23 => 57 | n => n, fun | 22 => 35 | 3 => 3 | 4 => 4 | 0 => 0 | n => n, fun | n => n⟩
theorem layD : Go.Proofs.Lays2.n23 Try.prog renD := {
  mixed := by kernel_rfl
  f23 := Try.func57.trans (congrArg some (by kernel_rfl))
  t0 := Try.underlying0
  a0 := Try.isAgg0
  z0 := Try.sizeOf0
  v0 := Try.zeroValue0
  t3 := Try.underlying3
  a3 := Try.isAgg3
  z3 := Try.sizeOf3
  v3 := Try.zeroValue3
  t4 := Try.underlying4
  a4 := Try.isAgg4
  z4 := Try.sizeOf4
  v4 := Try.zeroValue4
  t22 := Try.underlying35
  a22 := Try.isAgg35
  z22 := Try.sizeOf35
  v22 := Try.zeroValue35
  i3 := by kernel_rfl }
theorem setMany_eq : ∀ (us z : List Value) (o : Nat), o + us.length ≤ z.length → setMany z o us = z.take o ++ (us ++ z.drop (o + us.length))
  | [], z, o, h => by simp [setMany]
  | u :: us, z, o, h => by
    simp only [List.length_cons] at h
    have e := setMany_eq us (z.set o u) (o + 1) (by rw [List.length_set]; omega)
    show setMany (z.set o u) (o + 1) us = _
    rw [e, set1 z o u (by omega), List.drop_set_of_lt (by omega)]
    simp only [List.append_assoc, List.cons_append, List.nil_append, List.length_cons]
    rw [show o + 1 + us.length = o + (us.length + 1) by omega]
section
variable {w : World} {B e g n cap : Nat} {xs : List Value}
theorem own_full (h : w.ownsRow B e 1 (.slice (some ⟨g, 0, none⟩) n cap) n xs) : ∃ cur : List Value, w.ownsRow B e 1 (.slice (some ⟨g, 0, none⟩) cap cap) cap cur ∧ cur.take n = xs ∧ n ≤ cap ∧ cap ≤ maxLen := by
  rcases h.2 with ⟨h1, _⟩ | ⟨g', cap', cur, hh, hB, hg, hn, hm, hs, ht⟩
  · simp at h1
  · simp at hh
    obtain ⟨rfl, rfl⟩ := hh
    refine ⟨cur.toList, ⟨by simpa using hs, .inr ⟨g, cap, cur, rfl, hB, hg, Nat.le_refl _, hm, hs, ?_⟩⟩, by simpa using ht, hn, hm⟩
    rw [← hs, ← Array.length_toList, List.take_length]
theorem own_cut {cur : List Value} (h : w.ownsRow B e 1 (.slice (some ⟨g, 0, none⟩) cap cap) cap cur) (hn : n ≤ cap) : w.ownsRow B e 1 (.slice (some ⟨g, 0, none⟩) n cap) n (cur.take n) := by
  have hl := h.1
  rcases h.2 with ⟨h1, _⟩ | ⟨g', cap', c, hh, hB, hg, hn2, hm, hs, ht⟩
  · simp at h1
  · simp at hh
    obtain ⟨rfl, rfl⟩ := hh
    refine ⟨by simp; omega, .inr ⟨g, cap, c, rfl, hB, hg, hn, hm, hs, ?_⟩⟩
    rw [← ht, List.take_take, Nat.mul_one, Nat.mul_one, Nat.min_eq_left hn]
theorem own_many {z : List Value} (h : w.ownsRow B e 1 (.slice (some ⟨g, 0, none⟩) n cap) n z) (o : Nat) (us : List Value) : (w.setCells g o us).ownsRow B e 1 (.slice (some ⟨g, 0, none⟩) n cap) n (setMany z o us) := by
  induction us generalizing w z o with
  | nil => exact h
  | cons u us ih => exact ih (h.stored o u).1 (o + 1)
end
theorem keep_many (w : World) (g o : Nat) (us : List Value) : Keep [g] w (w.setCells g o us) := by
  induction us generalizing w o with
  | nil => exact Keep.refl _ _
  | cons u us ih => exact (Keep.set w g o u [g] (by simp)).trans (ih _ _)
theorem own_drew {w : World} {B e n : Nat} {v : Value} {xs : List Value} (h : w.ownsRow B e 1 v n xs) : w.drew.ownsRow B e 1 v n xs := h
/-- What comes of an insertion: the list, in its own block or in a new one. -/
def InsP (l : List Int) (k : Nat) (x : Int) (b : List Nat) (w : World) (e : Ending) (w' : World) : Prop := ∃ u d, e = .returned u ∧ OIntS w' u (l.take k ++ x :: l.drop k) d ∧ d.Nodup ∧ (∀ y ∈ d, y ∈ b ∨ w.heap.size ≤ y) ∧ Keep b w w'
theorem ins_len (l : List Int) (k : Nat) (x : Int) (hk : k ≤ l.length) : (l.take k ++ x :: l.drop k).length = l.length + 1 := by simp; omega
/-- A new row: its first cells are those. -/
theorem own_alloc (w : World) (cs : Array Value) (n cap e : Nat) (xs : List Value) (hs : cs.size = cap) (hn : n ≤ cap) (hc : cap ≤ maxLen) (hx : xs.length = n) (ht : cs.toList.take n = xs) :
    (w.alloc (.cells cs e)).ownsRow w.heap.size e 1 (.slice (some ⟨w.heap.size, 0, none⟩) n cap) n xs :=
  ⟨by simpa using hx, .inr ⟨w.heap.size, cap, cs, rfl, Nat.le_refl _, heap_alloc_new w _, hn, hc, by simpa using hs, by simpa using ht⟩⟩
set_option maxHeartbeats 1000000 in
theorem insert_any (v : Value) (l : List Int) (b : List Nat) (k : Nat) (x : Int) (w : World) (h : OIntS w v l b) (hk : k ≤ l.length) (hl : l.length ≤ 1100020) :
    Calls Try.prog 78 #[v, .int .i64 k, .slice (some ⟨w.heap.size, 0, none⟩) 1 1] (w.alloc (.cells #[.int .i64 x] 3)) fun e w' => InsP l k x b w e w' := by
  obtain ⟨W, hW⟩ : ∃ W, w.alloc (.cells #[.int .i64 x] 3) = W := ⟨_, rfl⟩
  have hb : Below w.heap.size w W := by rw [← hW]; exact (Below.refl _ _).alloc (Nat.le_refl _) _
  have hG : W.heap[w.heap.size]? = some (.cells #[.int .i64 x] 3 (0, 0)) := by rw [← hW]; exact heap_alloc_new w _
  rw [hW]
  clear hW
  have hsz : w.heap.size < W.heap.size := (Array.getElem?_eq_some_iff.1 hG).1
  have hvs : ∀ j u, ([.int .i64 x] : List Value)[j]? = some u → W.cell? ⟨w.heap.size, 0 + j, none⟩ = some u := fun j u hj => by
    rcases j with _ | j
    · simp at hj; subst hj; rw [cell_of_row W _ 0 _ _ (0, 0) hG]; rfl
    · simp at hj
  have h1v : ∀ u ∈ ([.int .i64 x] : List Value), u.oneCell' = true := by simp [Value.oneCell']
  have hml : (1100021 : Nat) ≤ maxLen := by unfold maxLen; omega
  rcases h with ⟨ho, rfl⟩
  rcases ho.2 with ⟨rfl, h0⟩ | ⟨g, c, cur, rfl, _, hg, hn, hm, hs, ht⟩
  · obtain rfl : l = [] := List.eq_nil_of_length_eq_zero h0
    obtain rfl : k = 0 := by simpa using hk
    refine (Any2.slices_Insert_int_end_grow layI none 0 0 w.heap.size 0 1 1 [] [.int .i64 x] W (by omega) (by omega) (by omega) (by omega) rfl rfl (fun _ => rfl) (by simp) hvs h1v).mono ?_
    rintro e w' ⟨rfl, rfl⟩
    have hc1 := grownCap_ge W (0 + 1) 0 (renI.t 3)
    have hc2 := grownCap_le_maxLen W (0 + 1) 0 (renI.t 3) (by omega)
    generalize grownCap W (0 + 1) 0 (renI.t 3) = cap at hc1 hc2 ⊢
    refine ⟨_, [W.heap.size], rfl, ⟨own_zero (own_alloc W.drew _ 1 cap 3 [cI x] (by simp [Builtin.zeroCells, Value.cells]; omega) (by omega) hc2 rfl (by simp [cI])), rfl⟩, by simp, fun y hy => .inr (by simp at hy; omega), ?_⟩
    exact Keep.of_below _ (hb.trans (((Below.refl W.heap.size W).drew.alloc (Nat.le_refl _) _).mono (by omega)))
  · have hgl : g < w.heap.size := (Array.getElem?_eq_some_iff.1 hg).1
    have hoW : W.ownsRow 0 3 1 (.slice (some ⟨g, 0, none⟩) l.length c) l.length (l.map cI) := own_kept ho (Keep.of_below [] hb) (by simp)
    have hKW : Keep [g] w W := (Keep.of_below [] hb).mono (by simp)
    obtain ⟨z, hz, hzt, hnc, hcm⟩ := own_full hoW
    have hzl : z.length = c := by simpa using hz.1
    have hcs : ∀ j u, (l.map cI)[j]? = some u → W.cell? ⟨g, 0 + j, none⟩ = some u := fun j u hj => by
      have hjl : j < l.length := by have := (List.getElem?_eq_some_iff.1 hj).1; simpa using this
      rw [Nat.zero_add, hoW.cellAt j (by omega), hj]
    have h1c : ∀ u ∈ l.map cI, u.oneCell' = true := fun u hu => by obtain ⟨y, _, rfl⟩ := List.mem_map.1 hu; rfl
    have hsp : ∀ j, j < c → (W.cell? ⟨g, 0 + j, none⟩).isSome = true := fun j hj => by
      rw [Nat.zero_add, hz.cellAt j (by omega), List.getElem?_eq_getElem (by omega)]; rfl
    have hfz : ∀ j, W.frozen? ⟨g, 0 + j, none⟩ = false := fun j => by rw [Nat.zero_add]; exact hz.frozenAt j
    have hmaps : (l.take k ++ x :: l.drop k).map cI = (l.map cI).take k ++ cI x :: (l.map cI).drop k := by simp
    have hilen := ins_len l k x hk
    have hc63 : c ≤ 9223372036854775807 := by unfold maxLen at hcm; omega
    by_cases hroom : l.length + 1 ≤ c
    · have key : ∀ X : World, X.ownsRow 0 3 1 (.slice (some ⟨g, 0, none⟩) c c) c (setMany (setMany z (k + 1) ((l.map cI).drop k)) k [cI x]) → Keep [g] w X →
          InsP l k x [g] w (.returned (.slice (some ⟨g, 0, none⟩) (l.length + 1) c)) X := fun X hX hKX => by
        refine ⟨_, [g], rfl, ⟨?_, rfl⟩, by simp, fun y hy => .inl hy, hKX⟩
        have h1 := own_cut hX (show l.length + 1 ≤ c from hroom)
        rw [hilen, hmaps]
        have e1 : (setMany (setMany z (k + 1) ((l.map cI).drop k)) k [cI x]).take (l.length + 1) = (l.map cI).take k ++ cI x :: (l.map cI).drop k := by
          have hd1 : ((l.map cI).drop k).length = l.length - k := by simp
          have e2 := setMany_eq ((l.map cI).drop k) z (k + 1) (by omega)
          have e3 : (setMany z (k + 1) ((l.map cI).drop k)).length = c := by rw [setMany_length, hzl]
          rw [setMany_eq [cI x] _ k (by rw [e3]; simp; omega), e2]
          have e4 : (z.take (k + 1) ++ (((l.map cI).drop k) ++ z.drop (k + 1 + ((l.map cI).drop k).length))).take k = (l.map cI).take k := by
            rw [List.take_append_of_le_length (by simp; omega), List.take_take, Nat.min_eq_left (by omega), ← hzt, List.take_take, Nat.min_eq_left hk]
          have e5 : (z.take (k + 1) ++ (((l.map cI).drop k) ++ z.drop (k + 1 + ((l.map cI).drop k).length))).drop (k + [cI x].length) = ((l.map cI).drop k) ++ z.drop (k + 1 + ((l.map cI).drop k).length) := by
            rw [List.drop_append_of_le_length (by simp; omega), List.drop_eq_nil_of_le (by simp; omega)]; rfl
          rw [e4, e5]
          have e6 : (l.map cI).take k ++ ([cI x] ++ (((l.map cI).drop k) ++ z.drop (k + 1 + ((l.map cI).drop k).length))) = ((l.map cI).take k ++ cI x :: (l.map cI).drop k) ++ z.drop (k + 1 + ((l.map cI).drop k).length) := by simp
          rw [e6, List.take_append_of_le_length (by simp; omega), List.take_of_length_le (by simp; omega)]
        rw [← e1]
        exact h1
      by_cases hkn : k = l.length
      · subst hkn
        refine (Any2.slices_Insert_int_end_room layI g 0 l.length c w.heap.size 0 1 1 [.int .i64 x] W (by omega) hroom hc63 rfl (fun j hj => ?_) (fun j hj => ?_) hvs h1v).mono ?_
        · rw [show 0 + l.length + j = 0 + (l.length + j) by omega]; exact hsp _ (by omega)
        · rw [show 0 + l.length + j = 0 + (l.length + j) by omega]; exact hfz _
        rintro e w' ⟨rfl, rfl⟩
        rw [Nat.zero_add]
        refine key _ ?_ (hKW.trans (keep_many _ _ _ _))
        have h2 := own_many hz l.length [cI x]
        have e7 : (l.map cI).drop l.length = [] := List.drop_eq_nil_of_le (by simp)
        rw [e7]
        exact h2
      · refine (Any2.slices_Insert_int_shift layI g 0 l.length c k w.heap.size 0 1 1 (l.map cI) [.int .i64 x] W (by omega) (by omega) hroom hc63 (by omega) (by simp) rfl hcs (fun j hj => hsp j (by omega)) (fun j hj => hfz j) hvs h1c h1v 3 3 1 c (by simp [World.shape?, hG]) (by
          obtain ⟨cur2, hh⟩ : ∃ cur2, W.heap[g]? = some (.cells cur2 3 (0, 0)) ∧ cur2.size = c := ⟨cur, (hb.block g hgl).trans hg, by simpa using hs⟩
          simp [World.shape?, hh.1, hh.2]) (by omega) (frozen_of_row W _ 0 _ _ hG) (frozen_of_row W _ 1 _ _ hG)).mono ?_
        rintro e w' ⟨rfl, rfl⟩
        rw [Nat.zero_add, Nat.zero_add]
        refine key _ ?_ ((hKW.drew.trans (keep_many _ _ _ _)).trans (keep_many _ _ _ _))
        exact own_many (own_many (own_drew hz) (k + 1) ((l.map cI).drop k)) k [cI x]
    · have hce : c = l.length := by omega
      have hc1 := grownCap_ge W (l.length + 1) c (renI.t 3)
      have hc2 := grownCap_le_maxLen W (l.length + 1) c (renI.t 3) (by omega)
      by_cases hkn : k = l.length
      · subst hkn
        refine (Any2.slices_Insert_int_end_grow layI (some ⟨g, 0, none⟩) l.length c w.heap.size 0 1 1 (l.map cI) [.int .i64 x] W (by omega) hnc (by omega) (by omega) (by simp) rfl (by simp) (fun a ha j u hj => by
          simp at ha
          subst ha
          rw [Addr.add_lit]
          exact hcs j u hj) hvs h1v).mono ?_
        rintro e w' ⟨rfl, rfl⟩
        generalize grownCap W (l.length + 1) c (renI.t 3) = cap at hc1 hc2 ⊢
        refine ⟨_, [W.heap.size], rfl, ⟨?_, rfl⟩, by simp, fun y hy => .inr (by simp at hy; omega), ?_⟩
        · rw [hilen, hmaps]
          refine own_zero (own_alloc W.drew _ (l.length + 1) cap 3 _ (by simp [Builtin.zeroCells, Value.cells]; omega) (by omega) hc2 (by simp) ?_)
          have e7 : (l.map cI).drop l.length = [] := List.drop_eq_nil_of_le (by simp)
          have e8 : (l.map cI).take l.length = l.map cI := List.take_of_length_le (by simp)
          rw [e7, e8]
          rw [Array.toList_append, List.take_append_of_le_length (by simp)]
          rw [List.take_of_length_le (by simp)]
          rfl
        · exact Keep.of_below _ (hb.trans (((Below.refl W.heap.size W).drew.alloc (Nat.le_refl _) _).mono (by omega)))
      · refine (Any2.slices_Insert_int_grow layI g 0 l.length c k w.heap.size 0 1 1 (l.map cI) [.int .i64 x] W (by omega) (by omega) hnc (by omega) (by omega) (by simp) rfl hcs hvs h1c h1v).mono ?_
        rintro e w' ⟨rfl, rfl⟩
        generalize grownCap W (l.length + 1) c (renI.t 3) = cap at hc1 hc2 ⊢
        obtain ⟨Z, hZ⟩ : ∃ Z : Array Value, ((l.map cI).take k).toArray ++ Builtin.zeroCells (Value.int .i64 0).cells (l.length + 1 - k) ++ Builtin.zeroCells (Value.int .i64 0).cells (cap - (l.length + 1)) = Z := ⟨_, rfl⟩
        have hZs : Z.size = cap := by rw [← hZ]; simp [Builtin.zeroCells, Value.cells]; omega
        have hZk : Z.toList.take k = (l.map cI).take k := by
          rw [← hZ, Array.toList_append, Array.toList_append, List.append_assoc, List.take_append_of_le_length (by simp; omega)]
          rw [List.take_of_length_le (by simp; omega)]
        rw [hZ]
        clear hZ
        have hoZ : (W.alloc (.cells Z 3)).ownsRow W.heap.size 3 1 (.slice (some ⟨W.heap.size, 0, none⟩) cap cap) cap Z.toList := own_alloc W Z cap cap 3 _ hZs (Nat.le_refl _) hc2 (by simpa using hZs) (by rw [List.take_of_length_le (by simp; omega)])
        have h1 := own_cut (own_many (own_drew (own_many (own_drew hoZ) k [cI x])) (k + 1) ((l.map cI).drop k)) (show l.length + 1 ≤ cap from hc1)
        refine ⟨_, [W.heap.size], rfl, ⟨?_, rfl⟩, by simp, fun y hy => .inr (by simp at hy; omega), ?_⟩
        · rw [hilen, hmaps]
          have hd1 : ((l.map cI).drop k).length = l.length - k := by simp
          have e3 : (setMany Z.toList k [cI x]).length = cap := by rw [setMany_length]; simpa using hZs
          have e1 : (setMany (setMany Z.toList k [cI x]) (k + 1) ((l.map cI).drop k)).take (l.length + 1) = (l.map cI).take k ++ cI x :: (l.map cI).drop k := by
            rw [setMany_eq ((l.map cI).drop k) _ (k + 1) (by omega)]
            rw [← List.append_assoc, List.take_append_of_le_length (by rw [List.length_append, List.length_take, e3]; omega)]
            rw [List.take_of_length_le (by rw [List.length_append, List.length_take, e3]; omega)]
            rw [setMany_eq [cI x] _ k (by simp; omega)]
            have e9 : (Z.toList.take k ++ ([cI x] ++ Z.toList.drop (k + [cI x].length))).take (k + 1) = (l.map cI).take k ++ [cI x] := by
              rw [← List.append_assoc, List.take_append_of_le_length (by simp; omega), List.take_of_length_le (by simp; omega), hZk]
            rw [e9]
            simp
          rw [← e1]
          exact own_zero h1
        · refine (Keep.of_below [g] hb).then (bs2 := [W.heap.size]) ?_ (fun y hy => .inr (by simp at hy; omega))
          exact (((Keep.alloc W _ _).drew.trans (keep_many _ _ _ _)).drew).trans (keep_many _ _ _ _)
/-- slices.Delete of one number: in place. -/
theorem delete_any (g c : Nat) (l : List Int) (b : List Nat) (k : Nat) (w : World) (h : OIntS w (.slice (some ⟨g, 0, none⟩) l.length c) l b) (hk : k < l.length) :
    Calls Try.prog 57 #[.slice (some ⟨g, 0, none⟩) l.length c, .int .i64 k, .int .i64 ((k + 1 : Nat) : Int)] w fun e w' => e = .returned (.slice (some ⟨g, 0, none⟩) (l.length - 1) c) ∧ OIntS w' (.slice (some ⟨g, 0, none⟩) (l.length - 1) c) (l.take k ++ l.drop (k + 1)) [g] ∧ Keep [g] w w' := by
  obtain ⟨ho, rfl⟩ := h
  obtain ⟨z, hz, hzt, hnc, hcm⟩ := own_full ho
  have hH : Go.Sort.Holds (Value.int .i64) w g 0 l.toArray := fun j hj => by
    have hj' : j < l.length := by simpa using hj
    refine ⟨?_, by rw [Nat.zero_add]; exact ho.frozenAt j⟩
    rw [Nat.zero_add, ho.cellAt j (by omega), List.getElem?_map, List.getElem?_eq_getElem hj']
    simp [hj', cI]
  refine (Any.slices_Delete_int layD g 0 c k (k + 1) l w hH hnc (by unfold maxLen at hcm; omega) (by omega) (by omega)).mono ?_
  rintro e w' ⟨rfl, q, rfl⟩
  rw [show k + 1 - k = 1 by omega]
  have hK : Keep [g] w (Go.Sort.putRow (Value.int .i64) (Go.Sort.ahead w q) g 0 (l.take k ++ l.drop (k + 1) ++ List.replicate 1 0).toArray) := ⟨rfl, rfl, rfl, by simp [Go.Sort.ahead], fun i hi hn => by
    simp only [List.mem_singleton] at hn
    unfold Go.Sort.putRow Go.Sort.mapBlock Go.Sort.ahead
    simp only [Array.getElem?_modify]
    rw [if_neg (fun e => hn e.symm)]⟩
  refine ⟨rfl, ⟨?_, rfl⟩, hK⟩
  have hlen : (l.take k ++ l.drop (k + 1)).length = l.length - 1 := by simp; omega
  rw [hlen]
  have hH2 : Go.Sort.Holds (Value.int .i64) (Go.Sort.ahead w q) g 0 l.toArray := hH
  have hc2 := Go.Sort.holds_putRow (Value.int .i64) (Go.Sort.ahead w q) g 0 l.toArray (l.take k ++ l.drop (k + 1) ++ List.replicate 1 0).toArray hH2 (by simp; omega)
  obtain ⟨cur, hcg, hcs⟩ : ∃ cur : Array Value, (Go.Sort.putRow (Value.int .i64) (Go.Sort.ahead w q) g 0 (l.take k ++ l.drop (k + 1) ++ List.replicate 1 0).toArray).heap[g]? = some (.cells cur 3 (0, 0)) ∧ cur.size = c := by
    rcases ho.2 with ⟨h1, _⟩ | ⟨g', c', cur, hh, _, hg, hn, hm, hs, ht⟩
    · simp at h1
    · simp at hh
      obtain ⟨rfl, rfl⟩ := hh
      refine ⟨Go.Sort.putCells (Value.int .i64) 0 (l.take k ++ l.drop (k + 1) ++ List.replicate 1 0).toArray cur, ?_, ?_⟩
      · unfold Go.Sort.putRow Go.Sort.mapBlock Go.Sort.ahead
        simp only [Array.getElem?_modify]
        rw [hg]
        rfl
      · unfold Go.Sort.putCells; simpa using hs
  refine ⟨by simp; omega, .inr ⟨g, c, cur, rfl, Nat.zero_le _, hcg, by omega, hcm, by simpa using hcs, ?_⟩⟩
  apply List.ext_getElem?
  intro j
  by_cases hj : j < l.length - 1
  · have h2 := (hc2 j (by simp; omega)).1
    rw [Nat.zero_add, cell_of_row _ g j _ _ (0, 0) hcg] at h2
    rw [Nat.mul_one, List.getElem?_take_of_lt hj, Array.getElem?_toList, h2, List.getElem?_map]
    have h3 : (l.take k ++ l.drop (k + 1) ++ List.replicate 1 0).toArray[j]! = (l.take k ++ l.drop (k + 1))[j]'(by omega) := by
      rw [getElem!_pos _ j (by simp; omega)]
      simp only [List.getElem_toArray]
      rw [List.getElem_append_left (by omega)]
    rw [h3, List.getElem?_eq_getElem (by omega)]
    rfl
  · rw [List.getElem?_eq_none (by simp; omega), List.getElem?_eq_none (by simp; omega)]

end Go.Proofs.Ytpgigoddjidfdaa.IpI
