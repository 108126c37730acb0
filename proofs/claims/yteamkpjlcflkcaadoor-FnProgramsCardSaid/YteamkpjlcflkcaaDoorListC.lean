/- What spec's Listing answers. Condition: none. -/
import Derived.Test.YteamkpjlcflkcaaDoorAsmB
import Derived.Test.YteamkpjlcflkcaaDoorDecC
import Derived.Test.YteamkpjlcflkcaaDoorTripM
import Derived.Deep.RegionWith
import Derived.Deep.RegionLaw
import Derived.BigRegion
namespace Go.Proofs.YteamkpjlcflkcaaDoor.ListC
open Go.RowKit Go.Deep Num InsC InsO ProgC InsJ ProgD AsmM AsmB TripM
set_option linter.unusedVariables false
set_option linter.unusedSimpArgs false

/-- The word of an op, and the letters of what stands behind it. -/
def nmL (o : Nat) : List UInt8 := [[], [115, 101, 116], [97, 100, 100], [115, 117, 98], [108, 111, 97, 100], [115, 116, 111, 114, 101], [106, 117, 109, 112], [122, 101, 114, 111], [115, 121, 115]].getD o []
def fmL (o : Nat) : List UInt8 := (form (nmL o)).2
theorem form_nm (o : Nat) (h1 : 1 ≤ o) (h8 : o ≤ 8) : form (nmL o) = (o, fmL o) := by
  have : o = 1 ∨ o = 2 ∨ o = 3 ∨ o = 4 ∨ o = 5 ∨ o = 6 ∨ o = 7 ∨ o = 8 := by omega
  rcases this with rfl | rfl | rfl | rfl | rfl | rfl | rfl | rfl <;> decide
theorem nm_len (o : Nat) : (nmL o).length ≤ 5 := by
  unfold nmL
  match o with
  | 0 | 1 | 2 | 3 | 4 | 5 | 6 | 7 | 8 => decide
  | o + 9 => simp [List.getD]
theorem fm_len (o : Nat) : (fmL o).length ≤ 3 := by
  unfold fmL form
  repeat' split
  all_goals simp
theorem itoa_len (n : Int) (h0 : -1000000 ≤ n) (h1 : n ≤ 1000000) : (Lib.itoa n).length ≤ 8 := by
  unfold Lib.itoa
  split
  · have := DecM.dd_len 6 n.natAbs (by omega)
    simp at this ⊢; omega
  · have := DecM.dd_len 6 n.toNat (by omega)
    simp at this ⊢; omega
/-- The k-th of what an instruction names. -/
def nth (q : Q) (k : Nat) : Int := if k = 0 then q.a else if k = 1 then q.b else q.c
def argT (c : UInt8) (n : Int) : List UInt8 := if c = 114 then [32, 114] ++ Lib.itoa n else [32] ++ Lib.itoa n
def argsT (f : List UInt8) (q : Q) : Nat → List UInt8
  | 0 => []
  | k + 1 => argsT f q k ++ argT (f.getD k 0) (nth q k)
def lineT (q : Q) : List UInt8 := nmL q.o.toNat ++ argsT (fmL q.o.toNat) q (fmL q.o.toNat).length ++ [10]
def listL (l : List Q) : List UInt8 := l.flatMap lineT
/-- What Listing answers. -/
def ansL (l : List Q) : List UInt8 := if progB l = true then listL l else []
theorem nth_le (q : Q) (h : Q.ok q = true) (k : Nat) : -1000000 ≤ nth q k ∧ nth q k ≤ 1000000 := by
  have := ok_all q h
  unfold nth
  split
  · omega
  · split <;> omega
theorem argT_len (c : UInt8) (n : Int) (h0 : -1000000 ≤ n) (h1 : n ≤ 1000000) : (argT c n).length ≤ 10 := by
  have := itoa_len n h0 h1
  unfold argT; split <;> simp <;> omega
theorem argsT_len (f : List UInt8) (q : Q) (h : Q.ok q = true) (k : Nat) : (argsT f q k).length ≤ 10 * k := by
  induction k with
  | zero => simp [argsT]
  | succ k ih =>
    have := argT_len (f.getD k 0) (nth q k) (nth_le q h k).1 (nth_le q h k).2
    simp only [argsT, List.length_append]; omega
theorem list_step (l : List Q) (k : Nat) (q : Q) (h : l[k]? = some q) : listL (l.take (k + 1)) = listL (l.take k) ++ lineT q := by
  obtain ⟨hk, rfl⟩ := List.getElem?_eq_some_iff.1 h
  unfold listL
  rw [List.take_succ_eq_append_getElem hk, List.flatMap_append]
  simp only [List.flatMap_cons, List.flatMap_nil, List.append_nil]
theorem cells_names (W : World) (o : Nat) (h : o ≤ 8) : (W.alloc (.cells #[.string ⟨#[]⟩, .string ⟨#[115, 101, 116]⟩, .string ⟨#[97, 100, 100]⟩, .string ⟨#[115, 117, 98]⟩, .string ⟨#[108, 111, 97, 100]⟩, .string ⟨#[115, 116, 111, 114, 101]⟩, .string ⟨#[106, 117, 109, 112]⟩, .string ⟨#[122, 101, 114, 111]⟩, .string ⟨#[115, 121, 115]⟩] 9)).cell? ⟨W.heap.size, o, none⟩ = some (.string ⟨(nmL o).toArray⟩) := by
  have : o = 0 ∨ o = 1 ∨ o = 2 ∨ o = 3 ∨ o = 4 ∨ o = 5 ∨ o = 6 ∨ o = 7 ∨ o = 8 := by omega
  rcases this with rfl | rfl | rfl | rfl | rfl | rfl | rfl | rfl | rfl <;> simp [nmL]

set_option maxRecDepth 100000 in
set_option maxHeartbeats 2000000 in
theorem spec_yes (g c : Nat) (l : List Q) (w : World) (hok : progB l = true) (hg : g < w.heap.size)
    (hc : ∀ i (q : Q), l[i]? = some q → w.cell? ⟨g, i * 4, none⟩ = some (.int .i64 q.o) ∧ w.cell? ⟨g, i * 4 + 1, none⟩ = some (.int .i64 q.a) ∧ w.cell? ⟨g, i * 4 + 2, none⟩ = some (.int .i64 q.b) ∧ w.cell? ⟨g, i * 4 + 3, none⟩ = some (.int .i64 q.c)) :
    Calls Tryd.prog 20 #[.slice (some ⟨g, 0, none⟩) l.length c] w fun e w' => e = .returned (.string ⟨(listL l).toArray⟩) ∧ Below w.heap.size w w' := by
  obtain ⟨h40, hall⟩ := ShowA.prog_all hok
  have hL : Lies w (.slice (some ⟨g, 0, none⟩) l.length c) l := .inr ⟨g, c, rfl, hg, hc⟩
  have hpr := ProgD.spec_any _ _ _ hL (by omega)
  rw [hok] at hpr
  clear hok hL
  go_enter Tryd.func20, Tryd.ntmps20
  go_wp2_with (go_at_call 12; fail)
  refine hpr.mono ?_
  rintro e w1 ⟨rfl, hb1⟩
  clear hpr
  have hnm := cells_names w1
  go_wp2_with fail
  have hNb : Below w.heap.size w (w1.alloc (.cells #[.string ⟨#[]⟩, .string ⟨#[115, 101, 116]⟩, .string ⟨#[97, 100, 100]⟩, .string ⟨#[115, 117, 98]⟩, .string ⟨#[108, 111, 97, 100]⟩, .string ⟨#[115, 116, 111, 114, 101]⟩, .string ⟨#[106, 117, 109, 112]⟩, .string ⟨#[122, 101, 114, 111]⟩, .string ⟨#[115, 121, 115]⟩] 9)) := hb1.alloc hb1.size _
  have hNl : w1.heap.size < (w1.alloc (.cells #[.string ⟨#[]⟩, .string ⟨#[115, 101, 116]⟩, .string ⟨#[97, 100, 100]⟩, .string ⟨#[115, 117, 98]⟩, .string ⟨#[108, 111, 97, 100]⟩, .string ⟨#[115, 116, 111, 114, 101]⟩, .string ⟨#[106, 117, 109, 112]⟩, .string ⟨#[122, 101, 114, 111]⟩, .string ⟨#[115, 121, 115]⟩] 9)).heap.size := by simp
  generalize w1.alloc (.cells #[.string ⟨#[]⟩, .string ⟨#[115, 101, 116]⟩, .string ⟨#[97, 100, 100]⟩, .string ⟨#[115, 117, 98]⟩, .string ⟨#[108, 111, 97, 100]⟩, .string ⟨#[115, 116, 111, 114, 101]⟩, .string ⟨#[106, 117, 109, 112]⟩, .string ⟨#[122, 101, 114, 111]⟩, .string ⟨#[115, 121, 115]⟩] 9) = WN at *
  have hNg : g < WN.heap.size := Nat.lt_of_lt_of_le hg hNb.size
  have hNc : Hid (∀ i (q : Q), l[i]? = some q → WN.cell? ⟨g, i * 4, none⟩ = some (.int .i64 q.o) ∧ WN.cell? ⟨g, i * 4 + 1, none⟩ = some (.int .i64 q.a) ∧ WN.cell? ⟨g, i * 4 + 2, none⟩ = some (.int .i64 q.b) ∧ WN.cell? ⟨g, i * 4 + 3, none⟩ = some (.int .i64 q.c)) := hd (fun i q hq => by
    obtain ⟨d0, d1, d2, d3⟩ := hc i q hq
    exact ⟨(hNb.cell (p := ⟨g, _, none⟩) hg).trans d0, (hNb.cell (p := ⟨g, _, none⟩) hg).trans d1, (hNb.cell (p := ⟨g, _, none⟩) hg).trans d2, (hNb.cell (p := ⟨g, _, none⟩) hg).trans d3⟩)
  have HNM := hd hnm
  generalize w1.heap.size = gN at *
  clear hc hb1 hnm
  go_loopw [4, 5] (fun sv iv wr => ∃ (k : Nat) (z : List UInt8), k ≤ l.length ∧ iv = .int .i64 k ∧ sv = .string ⟨z.toArray⟩ ∧ z.length ≤ 36 * k ∧ Hid (z = listL (l.take k)) ∧ Below WN.heap.size WN wr) (fun _ iv _ => l.length - (intOf iv).toNat)
  case atStart => exact ⟨0, [], Nat.zero_le _, rfl, rfl, Nat.zero_le _, hd rfl, Below.refl _ _⟩
  case round =>
    obtain ⟨k, z, hk, rfl, rfl, hz, hzz, hbel⟩ := hrel
    by_cases hlt : k < l.length
    · obtain ⟨q, hq⟩ : ∃ q, l[k]? = some q := ⟨l[k], by simp [hlt]⟩
      obtain ⟨d0, d1, d2, d3⟩ := hNc.out k q hq
      have c0 := (hbel.cell (p := ⟨g, k * 4, none⟩) hNg).trans d0
      have c1 := (hbel.cell (p := ⟨g, k * 4 + 1, none⟩) hNg).trans d1
      have c2 := (hbel.cell (p := ⟨g, k * 4 + 2, none⟩) hNg).trans d2
      have c3 := (hbel.cell (p := ⟨g, k * 4 + 3, none⟩) hNg).trans d3
      have hqo := hall k q hq
      have hqa := ok_all q hqo
      have HS := hd (list_step l k q hq)
      obtain ⟨on, hon⟩ : ∃ on : Nat, q.o = (on : Int) := ⟨q.o.toNat, by omega⟩
      have hon1 : 1 ≤ on ∧ on ≤ 8 := by omega
      have cn := (hbel.cell (p := ⟨gN, on, none⟩) hNl).trans (HNM.out on (by omega))
      have hlt' : Hid (lineT q = nmL on ++ argsT (fmL on) q (fmL on).length ++ [10]) := hd (by unfold lineT; rw [hon, Int.toNat_natCast])
      rw [hon] at c0
      have hfo := fun w => form_any ⟨(nmL on).toArray⟩ w
      rw [show (⟨(nmL on).toArray⟩ : ByteArray).data.toList = nmL on by simp, form_nm on hon1.1 hon1.2] at hfo
      simp only at hfo
      have hnl := nm_len on
      have hfl := fm_len on
      obtain ⟨fs, hfs⟩ : ∃ fs : ByteArray, fs = ⟨(fmL on).toArray⟩ := ⟨_, rfl⟩
      rw [← hfs] at hfo
      have hfsl : Hid (fs.data.toList = fmL on) := hd (by rw [hfs])
      have hfsz : fs.size = (fmL on).length := by rw [← hfsl.out]; simp
      have hk0 : (0 : Int) ≤ k := by omega
      have hk1 : (k : Int) < l.length := by omega
      have ho0 : (0 : Int) ≤ on := by omega
      have ho9 : (on : Int) < 9 := by omega
      have hgz := Nat.lt_of_lt_of_le hNg hbel.size
      have hbs := hbel.size
      clear d0 d1 d2 d3 hfs hqa hq hon hon1
      go_wp2_with (go_at_call 40; refine (hfo _).mono ?_; rintro e w' ⟨rfl, rfl⟩)
      go_region
      all_goals
        have hIc : ∀ j, j < 3 → (wr.alloc (.cells #[.int .i64 q.a, .int .i64 q.b, .int .i64 q.c] 3)).drew.cell? ⟨wr.heap.size, j, none⟩ = some (.int .i64 (nth q j)) := by
          intro j hj
          have : j = 0 ∨ j = 1 ∨ j = 2 := by omega
          rcases this with rfl | rfl | rfl <;> simp [nth]
        have hI0 : (wr.alloc (.cells #[.int .i64 q.a, .int .i64 q.b, .int .i64 q.c] 3)).drew.cell? ⟨g, k * 4, none⟩ = some (.int .i64 (on : Int)) := (World.cell?_alloc_lt _ _ _ hgz).trans c0
        have hIn : (wr.alloc (.cells #[.int .i64 q.a, .int .i64 q.b, .int .i64 q.c] 3)).drew.cell? ⟨gN, on, none⟩ = some (.string ⟨(nmL on).toArray⟩) := (World.cell?_alloc_lt _ _ _ (Nat.lt_of_lt_of_le hNl hbel.size)).trans cn
        have hIb : Below WN.heap.size WN (wr.alloc (.cells #[.int .i64 q.a, .int .i64 q.b, .int .i64 q.c] 3)).drew := (hbel.alloc hbs _).drew
        have hIz : wr.heap.size < (wr.alloc (.cells #[.int .i64 q.a, .int .i64 q.b, .int .i64 q.c] 3)).drew.heap.size := by simp
        generalize (wr.alloc (.cells #[.int .i64 q.a, .int .i64 q.b, .int .i64 q.c] 3)).drew = WI at *
        generalize wr.heap.size = gI at *
        replace hIc := hd hIc
        clear c0 c1 c2 c3 cn hbel hfo hgz hbs
        have hsum : z.length + (nmL on).length ≤ 1445 := by omega
        go_wp2_with fail
        go_loopw [4, 9] (fun sv jv wx => ∃ (j : Nat) (y : List UInt8), j ≤ (fmL on).length ∧ jv = .int .i64 j ∧ sv = .string ⟨y.toArray⟩ ∧ y.length ≤ 36 * k + 5 + 10 * j ∧ Hid (y = z ++ nmL on ++ argsT (fmL on) q j) ∧ Below WI.heap.size WI wx) (fun _ jv _ => (fmL on).length - (intOf jv).toNat)
        case atStart => exact ⟨0, z ++ nmL on, Nat.zero_le _, rfl, by rw [← ByteArray.mk_append_mk], by simp; omega, hd (by simp [argsT]), Below.refl _ _⟩
        case round =>
          obtain ⟨j, y, hj, rfl, rfl, hy, hyy, hbx⟩ := hrel
          by_cases hjl : j < (fmL on).length
          · have hjf : j < fs.size := by omega
            have hfk := get_D fs j hjf
            rw [hfsl.out] at hfk
            have cj := (hbx.cell (p := ⟨gI, j, none⟩) hIz).trans (hIc.out j (by omega))
            have hnle := nth_le q hqo j
            have hil := itoa_len (nth q j) hnle.1 hnle.2
            have hst : Hid (argsT (fmL on) q (j + 1) = argsT (fmL on) q j ++ argT (fs[j]) (nth q j)) := hd (by rw [← hfk]; rfl)
            have hdc := fun w => DecC.spec_any (nth q j) w (by omega) (by omega)
            have hbxs := hbx.size
            have hj0 : (0 : Int) ≤ j := by omega
            have hj3 : (j : Int) < 3 := by omega
            have hjs : (j : Int) < fs.size := by omega
            clear hfk
            by_cases hc : fs[j] = 114
            · have hc' : (fs[j].toNat : Int) = 114 := by rw [hc]; rfl
              have hat : Hid (argT fs[j] (nth q j) = [32, 114] ++ Lib.itoa (nth q j)) := hd (by unfold argT; rw [if_pos hc])
              generalize nth q j = nj at *
              generalize Lib.itoa nj = it at *
              go_wp2_with (go_at_call 41; refine (hdc _).mono ?_; rintro e w3 ⟨rfl, hb3⟩)
              go_roundw
              case rel => exact ⟨j + 1, y ++ ([32, 114] ++ it), by omega, by go_num, by simp only [← ByteArray.mk_append_mk, ByteArray.append_assoc], by simp; omega, hd (by rw [hst.out, hat.out, hyy.out]; simp), hbx.trans (hb3.mono hbxs)⟩
              case measure => simp [intOf]; omega
            · have hc' : ((fs[j].toNat : Int) == 114) = false := by
                have : fs[j].toNat ≠ 114 := fun h => hc (UInt8.toNat.inj h)
                simp; omega
              have hat : Hid (argT fs[j] (nth q j) = [32] ++ Lib.itoa (nth q j)) := hd (by unfold argT; rw [if_neg hc])
              generalize nth q j = nj at *
              generalize Lib.itoa nj = it at *
              go_wp2_with (go_at_call 41; refine (hdc _).mono ?_; rintro e w3 ⟨rfl, hb3⟩)
              go_roundw
              case rel => exact ⟨j + 1, y ++ ([32] ++ it), by omega, by go_num, by simp only [← ByteArray.mk_append_mk, ByteArray.append_assoc], by simp; omega, hd (by rw [hst.out, hat.out, hyy.out]; simp), hbx.trans (hb3.mono hbxs)⟩
              case measure => simp [intOf]; omega
          · obtain rfl : j = (fmL on).length := by omega
            have hjs : (fs.size : Int) = (fmL on).length := by omega
            go_wp2
            go_roundw
            case rel => exact ⟨k + 1, y ++ [10], by omega, by go_num, by rw [← ByteArray.mk_append_mk], by simp; omega, hd (by rw [HS.out, hlt'.out, hyy.out, hzz.out]; simp), hIb.trans (hbx.mono hIb.size)⟩
            case measure => simp [intOf]; omega
    · obtain rfl : k = l.length := by omega
      go_wp2
      go_ret
      exact ⟨by rw [hzz.out, List.take_length]; rfl, hNb.trans (hbel.mono hNb.size)⟩

set_option maxHeartbeats 400000 in
theorem spec_no (v : Value) (l : List Q) (w : World) (h : Lies w v l) (hl : l.length ≤ 1048576) (hok : progB l = false) :
    Calls Tryd.prog 20 #[v] w fun e w' => e = .returned (.string ⟨#[]⟩) ∧ Below w.heap.size w w' := by
  have hpr := ProgD.spec_any _ _ _ h hl
  rw [hok] at hpr
  go_enter Tryd.func20, Tryd.ntmps20
  go_wp2_with (go_at_call 12; refine hpr.mono ?_; rintro e w1 ⟨rfl, hb1⟩)
  go_ret
  exact ⟨rfl, hb1⟩
set_option maxHeartbeats 400000 in
theorem spec_nil (w : World) :
    Calls Tryd.prog 20 #[.slice none 0 0] w fun e w' => e = .returned (.string ⟨#[]⟩) ∧ Below w.heap.size w w' := by
  have hpr := ProgD.spec_any (.slice none 0 0) [] w (.inl ⟨rfl, rfl⟩) (by simp)
  rw [show progB [] = true from rfl] at hpr
  go_enter Tryd.func20, Tryd.ntmps20
  go_wp2_with (go_at_call 12; fail)
  refine hpr.mono ?_
  rintro e w1 ⟨rfl, hb1⟩
  have hbs := hb1.size
  go_wp2_with fail
  go_loop [4, 5] (fun s i => s = .string ⟨#[]⟩ ∧ i = .int .i64 0) (fun _ _ => 0)
  case atStart => exact ⟨rfl, rfl⟩
  case round =>
    obtain ⟨rfl, rfl⟩ := hrel
    go_wp2
    go_ret
    exact ⟨rfl, hb1.alloc hbs _⟩
theorem spec_any (v : Value) (l : List Q) (w : World) (h : Lies w v l) (hl : l.length ≤ 1048576) :
    Calls Tryd.prog 20 #[v] w fun e w' => e = .returned (.string ⟨(ansL l).toArray⟩) ∧ Below w.heap.size w w' := by
  unfold ansL
  cases hok : progB l
  · rw [if_neg (by simp)]
    exact spec_no v l w h hl hok
  · rw [if_pos rfl]
    rcases h with ⟨rfl, rfl⟩ | ⟨g, c, rfl, hg, hc⟩
    · exact spec_nil w
    · exact spec_yes g c l w hok hg hc

end Go.Proofs.YteamkpjlcflkcaaDoor.ListC
