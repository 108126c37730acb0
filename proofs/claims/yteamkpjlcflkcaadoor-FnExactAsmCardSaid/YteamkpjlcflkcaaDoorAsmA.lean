/- What spec's l4Words, l4Lines, l4Reg and l4Form answer; rows of strings. Condition: none. -/
import Derived.Test.YteamkpjlcflkcaaDoorAsmM
import Derived.Test.YteamkpjlcflkcaaDoorReadC
import Derived.OwnWalk
namespace Go.Proofs.YteamkpjlcflkcaaDoor.AsmA
open Go.RowKit Go.Deep Num InsC InsO ProgC InsJ ProgD ReadA ReadC AsmM
set_option linter.unusedVariables false
set_option linter.unusedSimpArgs false

theorem infoStr : (Tryd.prog.info? 9).map (fun i => (i.zero, i.size, i.bytes)) = some (some (.string ⟨#[]⟩), 1, 16) := by kernel_rfl
/-- A text as a cell. -/
def sc (l : List UInt8) : Value := .string ⟨l.toArray⟩
/-- 'out = append(out, s)' of texts. -/
theorem wpList_append_str {w : World} {ops : Array Oper} {rest : List Oper} {o : Oper} {a : Act} {Q' : Exit → Act → World → Prop} (hgd : o.guard = none) (s x : Operand)
    (ho : o.op = .call { callee := .builtin .append, args := #[s, x], argTypes := #[56, 56] }) (B : Nat) (v : Value) (l : List (List UInt8)) (n : Nat) (hn : n = l.length) (hs : a.eval s = v)
    (hown : w.ownsRow B 9 1 v n (l.map sc)) (g : Nat) (y : List UInt8) (hx : a.eval x = .slice (some ⟨g, 0, none⟩) 1 1)
    (hc : w.cell? ⟨g, 0, none⟩ = some (sc y)) (hlen : n + 1 ≤ 8388608) (hbase : B ≤ w.heap.size)
    (h : ∀ v' w', w'.ownsRow B 9 1 v' (l ++ [y]).length ((l ++ [y]).map sc) → Below B w w' → (∀ k, k < w.heap.size → some k ≠ v.ownBlock → w'.heap[k]? = w.heap[k]?) → wpList Tryd.prog ops Q' rest (a.put o.dst v') w') : wpList Tryd.prog ops Q' (o :: rest) a w := by
  subst hn
  obtain ⟨i0, hi, hz0, hz1, hz2⟩ := info_parts infoStr
  refine wpList_append_own w hgd s x 56 ho B 9 i0 (.string ⟨#[]⟩) 1 16 Tryd.underlying56 hi hz0 hz1 hz2 rfl (by decide) v l.length (l.map sc) hs hown ⟨g, 0, none⟩ 1 1 [sc y] hx (by simp) ?_ ?_ (by unfold maxLen; omega) (by omega) hbase ?_
  · intro j u hj
    match j, hj with
    | 0, hj => simp at hj; subst hj; exact hc
    | j + 1, hj => simp at hj
  · intro u hu
    simp at hu; subst hu; rfl
  · intro v' w' h1 h2 _
    refine h v' w' ?_ ((Below.refl _ _).grown h2 hbase (fun k hk => ReadA.ownBlock_ge hown hk)) h2.block
    rw [List.length_append, List.map_append]; exact h1

theorem extract_mid (s : ByteArray) (j k : Nat) (hk : k ≤ s.size) : s.extract j k = ⟨((s.data.toList.take k).drop j).toArray⟩ := by
  apply ByteArray.ext
  apply Array.toList_inj.1
  simp [ByteArray.data_extract, List.drop_take]
theorem take_snoc (s : ByteArray) (k : Nat) (h : k < s.size) : s.data.toList.take (k + 1) = s.data.toList.take k ++ [s[k]] := by
  rw [List.take_succ_eq_append_getElem (by simpa using h)]; rfl

/-- Where the last piece of the first k bytes begins. -/
def from' (c : UInt8) (l : List UInt8) (k : Nat) : Nat := k - (cutF c (l.take k)).2.length
theorem from_le (c : UInt8) (l : List UInt8) (k : Nat) : from' c l k ≤ k := Nat.sub_le _ _
theorem from_piece (c : UInt8) (s : ByteArray) (k : Nat) (hk : k ≤ s.size) : s.extract (from' c s.data.toList k) k = ⟨((cutF c (s.data.toList.take k)).2).toArray⟩ := by
  rw [extract_mid s _ _ hk]
  have := cut_drop c (s.data.toList.take k)
  have hl : (s.data.toList.take k).length = k := by simp; omega
  rw [hl] at this
  rw [show from' c s.data.toList k = k - (cutF c (s.data.toList.take k)).2.length from rfl, ← this]

set_option maxRecDepth 100000 in
set_option maxHeartbeats 1000000 in
theorem words_any (s : ByteArray) (w : World) (hs : s.size ≤ 1048576) :
    Calls Tryd.prog 60 #[.string s] w fun e w' => ∃ v, e = .returned v ∧ w'.ownsRow w.heap.size 9 1 v (words s.data.toList).length ((words s.data.toList).map sc) ∧ Below w.heap.size w w' := by
  go_enter Tryd.func60, Tryd.ntmps60
  go_wp2_with fail
  have hown0 : (w.alloc (.cells #[] 9)).ownsRow w.heap.size 9 1 (.slice (some ⟨w.heap.size, 0, none⟩) 0 0) ([] : List (List UInt8)).length (([] : List (List UInt8)).map sc) := World.ownsRow_lit w #[] 0 (Nat.le_refl _) (by unfold maxLen; omega) rfl
  have hbel0 : Below w.heap.size w (w.alloc (.cells #[] 9)) := (Below.refl _ _).alloc (Nat.le_refl _) _
  go_loopw [3, 4, 5] (fun v fv iv wr => ∃ (k f : Nat) (ws : List (List UInt8)), k ≤ s.size ∧ f ≤ k ∧ iv = .int .i64 k ∧ fv = .int .i64 f ∧ ws.length ≤ k ∧ Hid (f = from' 32 s.data.toList k) ∧ Hid (ws = (cutF 32 (s.data.toList.take k)).1) ∧ wr.ownsRow w.heap.size 9 1 v ws.length (ws.map sc) ∧ Below w.heap.size w wr)
    (fun _ _ iv _ => s.size - (intOf iv).toNat)
  case atStart => exact ⟨0, 0, [], Nat.zero_le _, Nat.zero_le _, rfl, rfl, Nat.zero_le _, hd rfl, hd rfl, hown0, hbel0⟩
  case round =>
    clear hown0 hbel0
    obtain ⟨k, f, ws, hk, hf, rfl, rfl, hwl, hfr, hws, hown, hbel⟩ := hrel
    have hpc := from_piece 32 s k hk
    rw [← hfr.out] at hpc
    have hbs := hbel.size
    have hf0 : (0 : Int) ≤ f := by omega
    by_cases hlt : k < s.size
    · have hts := take_snoc s k hlt
      have hl : (s.data.toList.take k).length = k := by simp; omega
      by_cases hc : s[k] = 32
      · have hc' : (s[k].toNat : Int) = 32 := by rw [hc]; rfl
        rw [hc] at hts
        have hcy := cut_yes 32 (s.data.toList.take k)
        rw [← hts] at hcy
        have HF : Hid (k + 1 = from' 32 s.data.toList (k + 1)) := hd (by unfold from'; rw [hcy]; simp)
        generalize hp : (cutF 32 (s.data.toList.take k)).2 = p at *
        have HW : Hid (ws ++ [p] = (cutF 32 (s.data.toList.take (k + 1))).1) := hd (by rw [hcy, hws.out])
        have hown1 := hown.alloc (.cells #[.string ⟨p.toArray⟩] 9)
        have HC : Hid ((wr.alloc (.cells #[.string ⟨p.toArray⟩] 9)).cell? ⟨wr.heap.size, 0, none⟩ = some (sc p)) := hd (by simp [sc])
        clear hcy hts hws hfr hl hp hown
        go_wp2_with (at_builtin; refine wpList_append_str rfl _ _ rfl w.heap.size _ ws _ rfl rfl hown1 wr.heap.size p rfl HC.out (by omega) (by simp; omega) ?_)
        intro v2 w2 hown2 hb2 _
        have hb3 : Below w.heap.size w w2 := (hbel.alloc hbs _).trans hb2
        have HO := hd hown2
        clear hb2 hown1 hown2
        go_wp2
        go_roundw
        case rel => exact ⟨k + 1, k + 1, ws ++ [p], by omega, by omega, by go_num, by go_num, by simp; omega, HF, HW, by simpa using HO.out, hb3⟩
        case measure => simp [intOf]; omega
      · have hc' : ((s[k].toNat : Int) == 32) = false := by
          have : s[k].toNat ≠ 32 := fun h => hc (UInt8.toNat.inj h)
          simp; omega
        have hcn := cut_no 32 s[k] (s.data.toList.take k) hc
        rw [← hts] at hcn
        have HF : Hid (f = from' 32 s.data.toList (k + 1)) := hd (by
          rw [hfr.out]; unfold from'; rw [hcn]
          have := cut_len 32 (s.data.toList.take k)
          simp at this ⊢)
        have HW : Hid (ws = (cutF 32 (s.data.toList.take (k + 1))).1) := hd (by rw [hcn, hws.out])
        clear hcn hts hws hfr hl hpc
        go_wp2
        go_roundw
        case rel => exact ⟨k + 1, f, ws, by omega, by omega, by go_num, rfl, by omega, HF, HW, hown, hbel⟩
        case measure => simp [intOf]; omega
    · obtain rfl : k = s.size := by omega
      rw [show s.data.toList.take s.size = s.data.toList from List.take_of_length_le (by simp)] at hws hpc
      have HW : Hid (words s.data.toList = ws ++ [(cutF 32 s.data.toList).2]) := hd (by rw [hws.out]; rfl)
      generalize (cutF 32 s.data.toList).2 = p at *
      have hown1 := hown.alloc (.cells #[.string ⟨p.toArray⟩] 9)
      have HC : Hid ((wr.alloc (.cells #[.string ⟨p.toArray⟩] 9)).cell? ⟨wr.heap.size, 0, none⟩ = some (sc p)) := hd (by simp [sc])
      clear hws hfr hown
      go_wp2_with (at_builtin; refine wpList_append_str rfl _ _ rfl w.heap.size _ ws _ rfl rfl hown1 wr.heap.size p rfl HC.out (by omega) (by simp; omega) ?_)
      intro v2 w2 hown2 hb2 _
      have hb3 : Below w.heap.size w w2 := (hbel.alloc hbs _).trans hb2
      have HO := hd hown2
      clear hb2 hown1 hown2
      go_wp2
      go_ret
      exact ⟨v2, rfl, by rw [HW.out]; simpa using HO.out, hb3⟩

set_option maxRecDepth 100000 in
set_option maxHeartbeats 1000000 in
theorem lines_any (s : ByteArray) (w : World) (hs : s.size ≤ 1048576) :
    Calls Tryd.prog 37 #[.string s] w fun e w' => ∃ v, e = .returned v ∧ w'.ownsRow w.heap.size 9 1 v (lines s.data.toList).length ((lines s.data.toList).map sc) ∧ Below w.heap.size w w' := by
  go_enter Tryd.func37, Tryd.ntmps37
  go_wp2_with fail
  have hown0 : (w.alloc (.cells #[] 9)).ownsRow w.heap.size 9 1 (.slice (some ⟨w.heap.size, 0, none⟩) 0 0) ([] : List (List UInt8)).length (([] : List (List UInt8)).map sc) := World.ownsRow_lit w #[] 0 (Nat.le_refl _) (by unfold maxLen; omega) rfl
  have hbel0 : Below w.heap.size w (w.alloc (.cells #[] 9)) := (Below.refl _ _).alloc (Nat.le_refl _) _
  go_loopw [3, 4, 5] (fun v fv iv wr => ∃ (k f : Nat) (ws : List (List UInt8)), k ≤ s.size ∧ f ≤ k ∧ iv = .int .i64 k ∧ fv = .int .i64 f ∧ ws.length ≤ k ∧ Hid (f = from' 10 s.data.toList k) ∧ Hid (ws = (cutF 10 (s.data.toList.take k)).1) ∧ wr.ownsRow w.heap.size 9 1 v ws.length (ws.map sc) ∧ Below w.heap.size w wr)
    (fun _ _ iv _ => s.size - (intOf iv).toNat)
  case atStart => exact ⟨0, 0, [], Nat.zero_le _, Nat.zero_le _, rfl, rfl, Nat.zero_le _, hd rfl, hd rfl, hown0, hbel0⟩
  case round =>
    clear hown0 hbel0
    obtain ⟨k, f, ws, hk, hf, rfl, rfl, hwl, hfr, hws, hown, hbel⟩ := hrel
    have hpc := from_piece 10 s k hk
    rw [← hfr.out] at hpc
    have hbs := hbel.size
    have hf0 : (0 : Int) ≤ f := by omega
    by_cases hlt : k < s.size
    · have hts := take_snoc s k hlt
      have hl : (s.data.toList.take k).length = k := by simp; omega
      by_cases hc : s[k] = 10
      · have hc' : (s[k].toNat : Int) = 10 := by rw [hc]; rfl
        rw [hc] at hts
        have hcy := cut_yes 10 (s.data.toList.take k)
        rw [← hts] at hcy
        have HF : Hid (k + 1 = from' 10 s.data.toList (k + 1)) := hd (by unfold from'; rw [hcy]; simp)
        generalize hp : (cutF 10 (s.data.toList.take k)).2 = p at *
        have HW : Hid (ws ++ [p] = (cutF 10 (s.data.toList.take (k + 1))).1) := hd (by rw [hcy, hws.out])
        have hown1 := hown.alloc (.cells #[.string ⟨p.toArray⟩] 9)
        have HC : Hid ((wr.alloc (.cells #[.string ⟨p.toArray⟩] 9)).cell? ⟨wr.heap.size, 0, none⟩ = some (sc p)) := hd (by simp [sc])
        clear hcy hts hws hfr hl hp hown
        go_wp2_with (at_builtin; refine wpList_append_str rfl _ _ rfl w.heap.size _ ws _ rfl rfl hown1 wr.heap.size p rfl HC.out (by omega) (by simp; omega) ?_)
        intro v2 w2 hown2 hb2 _
        have hb3 : Below w.heap.size w w2 := (hbel.alloc hbs _).trans hb2
        have HO := hd hown2
        clear hb2 hown1 hown2
        go_wp2
        go_roundw
        case rel => exact ⟨k + 1, k + 1, ws ++ [p], by omega, by omega, by go_num, by go_num, by simp; omega, HF, HW, by simpa using HO.out, hb3⟩
        case measure => simp [intOf]; omega
      · have hc' : ((s[k].toNat : Int) == 10) = false := by
          have : s[k].toNat ≠ 10 := fun h => hc (UInt8.toNat.inj h)
          simp; omega
        have hcn := cut_no 10 s[k] (s.data.toList.take k) hc
        rw [← hts] at hcn
        have HF : Hid (f = from' 10 s.data.toList (k + 1)) := hd (by
          rw [hfr.out]; unfold from'; rw [hcn]
          have := cut_len 10 (s.data.toList.take k)
          simp at this ⊢)
        have HW : Hid (ws = (cutF 10 (s.data.toList.take (k + 1))).1) := hd (by rw [hcn, hws.out])
        clear hcn hts hws hfr hl hpc
        go_wp2
        go_roundw
        case rel => exact ⟨k + 1, f, ws, by omega, by omega, by go_num, rfl, by omega, HF, HW, hown, hbel⟩
        case measure => simp [intOf]; omega
    · obtain rfl : k = s.size := by omega
      rw [show s.data.toList.take s.size = s.data.toList from List.take_of_length_le (by simp)] at hws hpc
      have hfe : f = s.size - (cutF 10 s.data.toList).2.length := by
        rw [hfr.out]; unfold from'
        rw [show s.data.toList.take s.size = s.data.toList from List.take_of_length_le (by simp)]
      have hcl := cut_len 10 s.data.toList
      by_cases hne : (cutF 10 s.data.toList).2 = []
      · have HW : Hid (lines s.data.toList = ws) := hd (by rw [hws.out]; unfold lines; rw [if_pos hne])
        rw [hne] at hfe
        have hfe' : (f : Int) = s.size := by simp at hfe; omega
        clear hws hfr hpc hne hcl hfe
        go_wp2
        go_ret
        exact ⟨_, rfl, by rw [HW.out]; exact hown, hbel⟩
      · have HW : Hid (lines s.data.toList = ws ++ [(cutF 10 s.data.toList).2]) := hd (by rw [hws.out]; unfold lines; rw [if_neg hne])
        have hfe' : (f : Int) < s.size := by
          have : 0 < (cutF 10 s.data.toList).2.length := List.length_pos_iff.2 hne
          simp at hcl; omega
        clear hcl hfe hne
        generalize (cutF 10 s.data.toList).2 = p at *
        have hown1 := hown.alloc (.cells #[.string ⟨p.toArray⟩] 9)
        have HC : Hid ((wr.alloc (.cells #[.string ⟨p.toArray⟩] 9)).cell? ⟨wr.heap.size, 0, none⟩ = some (sc p)) := hd (by simp [sc])
        clear hws hfr hown
        go_wp2_with (at_builtin; refine wpList_append_str rfl _ _ rfl w.heap.size _ ws _ rfl rfl hown1 wr.heap.size p rfl HC.out (by omega) (by simp; omega) ?_)
        intro v2 w2 hown2 hb2 _
        have hb3 : Below w.heap.size w w2 := (hbel.alloc hbs _).trans hb2
        have HO := hd hown2
        clear hb2 hown1 hown2
        go_wp2
        go_ret
        exact ⟨v2, rfl, by rw [HW.out]; simpa using HO.out, hb3⟩

end Go.Proofs.YteamkpjlcflkcaaDoor.AsmA
