/- At every text the law FnExactAsm answers true: impl's Asm answers as spec's, and its answer owns its memory. Conditions: the library's listed tables lie as the program's own text lays them, which the card ties. -/
import Derived.Test.YteamkpjlcflkcaaDoorCards
import Derived.Test.YteamkpjlcflkcaaDoorTie
import Derived.Test.YteamkpjlcflkcaaDoorDecC
import Derived.Test.YteamkpjlcflkcaaDoorProgD
import Derived.Test.YteamkpjlcflkcaaDoorShowA
import Derived.Test.YteamkpjlcflkcaaDoorMarkC
import Derived.Test.YteamkpjlcflkcaaDoorAsmD
import Derived.Test.YteamkpjlcflkcaaDoorFormT
import Derived.Test.YteamkpjlcflkcaaDoorAsmI
import Derived.WalkKit
import Derived.ProofKit
import Derived.OpenShut
import Derived.ShutString
import Derived.ChangeOld
import Derived.Below
import Derived.Deep.DeepHandedRow
import Derived.Lib.LaidTab
import Derived.Stop.LaidErr
import Derived.ChangeVars
import Derived.OpenVars
namespace Go.Proofs.YteamkpjlcflkcaaDoor.fnExactAsm
open Go.ChangeShapes Go.WideShapes Go.ChangeAt Go.RowKit
open Go.ChangeMaps (open_string shut_string)
set_option maxRecDepth 100000
set_option linter.unusedVariables false
set_option linter.unusedSimpArgs false

theorem own : ownKnob Tryd.prog.godebug = none := by kernel_rfl
theorem laidOut : laidOutB Tryd.prog = true := by kernel_rfl
theorem gDecC : Tryd.prog.globalNamed "internal/strconv.uint64pow10" = some 4 := by kernel_rfl
theorem gDecCType : (Tryd.prog.globals[4]?).map (·.type) = some 121 := by kernel_rfl
theorem cellsDecC : Tryd.prog.cellsOf 121 = 20 := by kernel_rfl
theorem elemDecC : Tryd.prog.cellsOf 111 = 1 := by kernel_rfl
theorem tableDecC {W : World} (h : laidMetH Tryd.prog Rows.fnExactAsmRow.laid W) : DecC.Tab W :=
  Lib.tabIs_of_head (rest := _) gDecC gDecCType Tryd.underlying121 Tryd.underlying111 elemDecC cellsDecC (show laidMet Tryd.prog Rows.fnExactAsmRow.laid W from h).tail.tail
theorem tabFormT {W : World} (h : laidMetH Tryd.prog Rows.fnExactAsmRow.laid W) (hs : W.ShapedOpen Tryd.prog) : FormT.Tab W := by
  have e : (Rows.laid_loop_example_g00781_impl_forms : DataW Unit) = FormT.formData := by kernel_rfl
  have hl := (show laidMet Tryd.prog Rows.fnExactAsmRow.laid W from h).tail.tail.tail.tail
  rw [e] at hl
  exact ⟨tableDecC h, FormT.forms_of hl, FormT.most_of hs⟩


set_option maxHeartbeats 1000000 in
theorem walk (a0 : ByteArray) (w : World) (ht : FormT.Tab w) (w0 : a0.size ≤ maxLen) :
    Calls Tryd.prog 4 #[.string a0] w fun e w' => e = .returned (.bool true) ∧ Below w.heap.size w w' := by
  unfold maxLen at w0
  have HT := Num.hd ht
  clear ht
  by_cases hbig : 1048576 < a0.size
  · go_enter Tryd.func4, Tryd.ntmps4
    go_wp2
    go_ret
    exact ⟨rfl, Below.refl _ _⟩
  · have hs : a0.size ≤ 1048576 := by omega
    have hok := AsmM.asm_ok a0.data.toList
    go_enter Tryd.func4, Tryd.ntmps4
    go_wp2_with (go_at_call 15; fail)
    refine (AsmD.spec_any a0 w hs).mono ?_
    rintro e w1 ⟨⟨v1, rfl, hr1⟩, hb1⟩
    have hi := fun w ht => AsmI.impl_any a0 w ht hs
    unfold AsmD.AsmPost at hi
    generalize AsmM.asm a0.data.toList = p at *
    obtain ⟨l, n⟩ := p
    simp only at *
    have hl : l.length ≤ 1048576 := by have := (ShowA.prog_all hok).1; omega
    have L1 := ProgC.lies_own hr1
    clear hr1 hok
    go_wp2_with (go_at_call 10; fail)
    refine (hi _ (HT.out.below hb1)).mono ?_
    rintro e w2 ⟨⟨v2, rfl, hr2⟩, hb2⟩
    have L2 := ProgC.lies_own hr2
    have L1' := L1.below hb2
    go_wp2_with (go_at_call 16; fail)
    refine (ProgD.eq_any _ _ _ _ L2 L1' hl).mono ?_
    rintro e w3 ⟨rfl, hb3⟩
    have hr3 := ProgC.own_below hr2 hb3
    replace hb3 := hb2.trans (hb3.mono hb2.size)
    clear L2 L1' hr2 hb2
    go_wp2_with (go_at_call 17; fail)
    refine (MarkC.mark_any _ _ _ _ _ hl hr3 hb3.size).mono ?_
    rintro e w4 ⟨rfl, hr4, hb4⟩
    replace hb4 := hb3.trans hb4
    clear hr3 hb3
    go_wp2_with (go_at_call 18; fail)
    refine (MarkC.held_any _ _ _ _ hl hr4).mono ?_
    rintro e w4' ⟨rfl, rfl⟩
    go_wp2_with (go_at_call 10; fail)
    refine (hi _ (HT.out.below (hb1.trans (hb4.mono hb1.size)))).mono ?_
    rintro e w5 ⟨⟨v5, rfl, hr5⟩, hb5⟩
    have L5 := ProgC.lies_own hr5
    have hr6 := ProgC.own_below hr4 hb5
    replace hb5 := hb4.trans (hb5.mono hb4.size)
    have L1' := L1.below hb5
    clear hr5 hr4 hb4
    go_wp2_with (go_at_call 16; fail)
    refine (ProgD.eq_any _ _ _ _ L5 L1' hl).mono ?_
    rintro e w6 ⟨rfl, hb6⟩
    have hr7 := ProgC.own_below hr6 hb6
    replace hb6 := hb5.trans (hb6.mono hb5.size)
    clear hr6 hb5 L5 L1'
    go_wp2_with (go_at_call 18; fail)
    refine (MarkC.held_any _ _ _ _ hl hr7).mono ?_
    rintro e w7 ⟨rfl, rfl⟩
    go_wp2
    go_ret
    exact ⟨rfl, hb1.trans (hb6.mono hb1.size)⟩

theorem contract (H : Type) (enc : TypeId × Value → H) (W : World) (base : Nat) (args : Array Value) (ds gs : List (DataW H)) (before : List MemPlace)
    (hval : ∀ (j : Nat) t v, Tryd.f4.params[j]? = some t → args[j]? = some v → Value.okWide Tryd.prog W .any base t v)
    (hW : DataW.Whole enc Tryd.prog Tryd.f4.params.toList Rows.fnExactAsmSpec.vars false W args.toList ds gs before) (hL : laidMetH Tryd.prog Rows.fnExactAsmRow.laid W) (hSh : W.ShapedOpen Tryd.prog) :
    Calls Tryd.prog 4 args W fun e W' => ∃ v, e = .returned v ∧ Rows.fnExactAsmSpec.post enc Tryd.prog Tryd.f4 false true false false W args v W' := by
  have hW' := hW
  obtain ⟨p, q, hA0, hV, rfl, hfz, hnd⟩ := hW
  have hA : DataW.TrodAll enc Tryd.prog W 0 (fun _ => true) true Tryd.f4.params.toList args.toList ds p := hA0
  rw [Tryd.params4] at hA hval
  obtain ⟨v0, vs0, d0, ds0, p0, q0, hargs, rfl, rfl, h0, r0⟩ := trodAll_cons hA
  obtain ⟨rfl, rfl, rfl⟩ := trodAll_nil r0
  obtain rfl : args = #[v0] := by cases args; simp_all
  have hV0 := hV
  obtain ⟨gv, gt, gcs, gfuel, gd, gp, rfl, _, _, _, _, _⟩ := trodVars_one hV
  obtain ⟨a0, rfl, rfl, rfl, w0⟩ := open_string Tryd.underlying9 (hval 0 9 v0 rfl rfl) h0
  clear hA0
  refine (walk a0 W (tabFormT hL hSh) w0).mono fun e W' ⟨he, hg⟩ => ?_
  subst he
  exact ⟨_, rfl, _, _, _, [], _, _, hW', (trodAll_cons_mk (shut_bool Tryd.underlying4 _) trodAll_mk0), (trodAll_cons_mk (shut_string Tryd.underlying9 w0) trodAll_mk0), (hg.trodVars laidOut (by kernel_rfl) hV0), hg.frame _, fun h => by cases h⟩

def put (c : Array Value) : Obj → Obj
  | .cells _ t frozen => .cells c t frozen
  | o => o
/-- A world with the tables as their text lays them. -/
def laidAt (W : World) : World := { W with heap := ((((((W.heap.modify 5 (put #[.int .u8 0, .int .u8 1, .int .u8 28, .int .u8 2, .int .u8 29, .int .u8 14, .int .u8 24, .int .u8 3, .int .u8 30, .int .u8 22, .int .u8 20, .int .u8 15, .int .u8 25, .int .u8 17, .int .u8 4, .int .u8 8, .int .u8 31, .int .u8 27, .int .u8 13, .int .u8 23, .int .u8 21, .int .u8 19, .int .u8 16, .int .u8 7, .int .u8 26, .int .u8 12, .int .u8 18, .int .u8 6, .int .u8 11, .int .u8 5, .int .u8 10, .int .u8 9])).modify 6 (put #[.int .u8 0, .int .u8 1, .int .u8 56, .int .u8 2, .int .u8 57, .int .u8 49, .int .u8 28, .int .u8 3, .int .u8 61, .int .u8 58, .int .u8 42, .int .u8 50, .int .u8 38, .int .u8 29, .int .u8 17, .int .u8 4, .int .u8 62, .int .u8 47, .int .u8 59, .int .u8 36, .int .u8 45, .int .u8 43, .int .u8 51, .int .u8 22, .int .u8 53, .int .u8 39, .int .u8 33, .int .u8 30, .int .u8 24, .int .u8 18, .int .u8 12, .int .u8 5, .int .u8 63, .int .u8 55, .int .u8 48, .int .u8 27, .int .u8 60, .int .u8 41, .int .u8 37, .int .u8 16, .int .u8 46, .int .u8 35, .int .u8 44, .int .u8 21, .int .u8 52, .int .u8 32, .int .u8 23, .int .u8 11, .int .u8 54, .int .u8 26, .int .u8 40, .int .u8 15, .int .u8 34, .int .u8 20, .int .u8 31, .int .u8 10, .int .u8 25, .int .u8 14, .int .u8 19, .int .u8 9, .int .u8 13, .int .u8 8, .int .u8 7, .int .u8 6])).modify 4 (put #[.int .u64 1, .int .u64 10, .int .u64 100, .int .u64 1000, .int .u64 10000, .int .u64 100000, .int .u64 1000000, .int .u64 10000000, .int .u64 100000000, .int .u64 1000000000, .int .u64 10000000000, .int .u64 100000000000, .int .u64 1000000000000, .int .u64 10000000000000, .int .u64 100000000000000, .int .u64 1000000000000000, .int .u64 10000000000000000, .int .u64 100000000000000000, .int .u64 1000000000000000000, .int .u64 10000000000000000000])).modify 3 (put #[.int .u8 128, .int .u8 191, .int .u8 160, .int .u8 191, .int .u8 128, .int .u8 159, .int .u8 144, .int .u8 191, .int .u8 128, .int .u8 143, .int .u8 0, .int .u8 0, .int .u8 0, .int .u8 0, .int .u8 0, .int .u8 0, .int .u8 0, .int .u8 0, .int .u8 0, .int .u8 0, .int .u8 0, .int .u8 0, .int .u8 0, .int .u8 0, .int .u8 0, .int .u8 0, .int .u8 0, .int .u8 0, .int .u8 0, .int .u8 0, .int .u8 0, .int .u8 0])).modify 0 (put #[.string ⟨#[]⟩, .string ⟨#[]⟩, .string ⟨#[115, 101, 116]⟩, .string ⟨#[114, 110]⟩, .string ⟨#[97, 100, 100]⟩, .string ⟨#[114, 114, 114]⟩, .string ⟨#[115, 117, 98]⟩, .string ⟨#[114, 114, 114]⟩, .string ⟨#[108, 111, 97, 100]⟩, .string ⟨#[114, 114]⟩, .string ⟨#[115, 116, 111, 114, 101]⟩, .string ⟨#[114, 114]⟩, .string ⟨#[106, 117, 109, 112]⟩, .string ⟨#[110]⟩, .string ⟨#[122, 101, 114, 111]⟩, .string ⟨#[114, 110]⟩, .string ⟨#[115, 121, 115]⟩, .string ⟨#[110]⟩])).modify 2 (put ((Go.Pinned.utf8FirstZ.map fun (z : Nat) => Value.int .u8 (z : Int)).toArray))) }
theorem laid_met (os : Os) : laidMet Tryd.prog Rows.fnExactAsmRow.laid ((laidAt (World.holding Tryd.prog os ⟨#[], #[], []⟩)).forCall (fun _ _ => 0) ⟨#[], #[.string ByteArray.empty], []⟩).memory :=
  laidMet_of_run' 8 (by kernel_rfl) (by kernel_rfl)
theorem reads (os : Os) {H : Type} (enc : TypeId × Value → H) : ∃ places, DataW.whole enc Tryd.prog ((laidAt (World.holding Tryd.prog os ⟨#[], #[], []⟩)).forCall (fun _ _ => 0) ⟨#[], #[.string ByteArray.empty], []⟩).memory Tryd.f4.params.toList Rows.fnExactAsmSpec.vars false (#[.string ByteArray.empty] : Array Value).toList 8 = some ([.lit (.string [])], [Rows.laid_loop_example_g00781_impl_forms], places) :=
  ⟨MemPlace.row ⟨0, 0, none⟩ 18, by kernel_rfl⟩

set_option maxRecDepth 100000 in
theorem lifted (os : Os) (started : os.Started) (H : Type) (enc : TypeId × Value → H) (F : Stop.Interp) :
    ReturnsInHanded {} Tryd.checked os 4 .any ((OpenSpec.ofChange Rows.fnExactAsmSpec).preRow enc Tryd.prog Tryd.f4 Rows.fnExactAsmRow.domain false Rows.fnExactAsmRow.laid) (((OpenSpec.ofChange Rows.fnExactAsmSpec).at F).post enc Tryd.prog Tryd.f4 false true false false) := by
  obtain ⟨places, hx⟩ := reads os enc
  refine returnsInHanded_of_row (C := Tryd.checked) (s := OpenSpec.ofChange Rows.fnExactAsmSpec) own started (by kernel_rfl) Tryd.func4
    (witness_row_at (enc := enc) (C := Tryd.checked) false (laidAt (World.holding Tryd.prog os ⟨#[], #[], []⟩)) #[.string ByteArray.empty] rfl (by kernel_rfl) (by kernel_rfl) (by kernel_rfl)
      (OpenSpec.preRow_of_cond 8 hx (by kernel_rfl) (fun k hk => by cases hk) (by kernel_rfl) (laid_met os))) ?_
  intro W base args ds gs before hval hW _ _ _ hL hSh _
  exact contract H enc W base args ds gs before hval hW hL hSh

theorem said : Rows.FnExactAsmSaid :=
  OpenClaim.holds_of_cond 4 Tryd.f4 rfl rfl rfl rfl rfl rfl rfl ⟨rfl, rfl, rfl, rfl, rfl⟩ rfl rfl rfl rfl rfl (by kernel_rfl) Tryd.func4 (by kernel_rfl)
    (of_decide_eq_true (by kernel_rfl)) (by unfold Func.isWrapper; first | (rw [if_pos (by decide +kernel)]; kernel_rfl) | (rw [if_neg (by decide +kernel)]; exact ⟨rfl, rfl⟩))
    (fun os started H enc _ F => by rw [OpenClaim.pre_eq_preRow]; exact lifted os started H enc F)
theorem plain (f : FuncId) (fn : Func) (hf : Tryd.pinned.checked.prog.funcNamed Rows.fnExactAsmRow.func = some f) (hfn : Tryd.pinned.checked.prog.funcs[f]? = some fn) :
    false = Tryd.pinned.checked.prog.looks [] ∧ ∀ (j : Nat) t, fn.params[j]? = some t → Tryd.pinned.checked.prog.wantsStandIn t = false := by
  obtain rfl : f = 4 := Option.some.inj ((show Tryd.prog.funcNamed Rows.fnExactAsmRow.func = some 4 by kernel_rfl).symm.trans hf) |>.symm
  obtain rfl : fn = Tryd.f4 := (Option.some.inj (Tryd.func4.symm.trans hfn)).symm
  refine ⟨by kernel_rfl, fun j t ht => ?_⟩
  rw [Tryd.params4] at ht
  obtain rfl : t = 9 := by simpa using Array.mem_of_getElem? ht
  exact (show Tryd.prog.wantsStandIn 9 = false by kernel_rfl)
theorem card : Rows.FnExactAsmCardSaid :=
  Claim7.holds_tied_plain_at .later [] _ _ _ _ said (fun _ h => by cases h) (by kernel_rfl) (fun _ h => by cases h) fnExactAsm_row_tie rfl ⟨rfl, rfl⟩ (by kernel_rfl) rfl plain (by kernel_rfl)
end Go.Proofs.YteamkpjlcflkcaaDoor.fnExactAsm
namespace Go.Proofs.YteamkpjlcflkcaaDoor
theorem fnExactAsm_card : Rows.FnExactAsmCardSaid := fnExactAsm.card
#print axioms fnExactAsm_card
end Go.Proofs.YteamkpjlcflkcaaDoor
