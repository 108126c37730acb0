/- What the laws hand over and get back: as numbers and lists, how it lies in memory, how it comes in. Condition: none. -/
import Derived.Test.YtncjnleobeaigaaTyA
namespace Go.Proofs.Ytncjnleobeaigaa.TyM
open Go.RowKit Go.ChangeShapes Go.WideShapes Go.Deep Num RowC TyA
set_option maxRecDepth 100000
set_option linter.unusedVariables false
set_option linter.unusedSimpArgs false

structure MIns where
 fOp : Int
 fA : Int
 fB : Int
 fC : Int
 deriving Inhabited, DecidableEq
def MIns.cells (x : MIns) : List Value := [cI x.fOp, cI x.fA, cI x.fB, cI x.fC]
def PIns (w : World) (cs : List Value) (x : MIns) (b : List Nat) : Prop := cs = x.cells ∧ b = []
theorem good_Ins : RowC.Good PIns := ⟨fun h _ _ => h, fun h y hy => by rw [h.2] at hy; simp at hy⟩
def RIns (x : MIns) : Prop := Rng x.fOp ∧ Rng x.fA ∧ Rng x.fB ∧ Rng x.fC
def AIns (w : World) (cs : List Value) (x : MIns) : Prop := cs = x.cells ∧ RIns x
theorem stay_Ins : Stays AIns := fun h _ => h

abbrev OInsS := Row 125 4 PIns
theorem gv_InsS : GoodV OInsS := gvRow _ _ good_Ins
abbrev FInsS := ArgRow 4 AIns
theorem sv_InsS {w w' : World} {v : Value} {x : List MIns} (h : FInsS w v x) (hb : Below w.heap.size w w') : FInsS w' v x := ArgRow.below (E := AIns) @stay_Ins h hb

abbrev OInsSS := Row 86 1 (PE OInsS)
theorem gv_InsSS : GoodV OInsSS := gvRow _ _ (good_pe gv_InsS)
abbrev FInsSS := ArgRow 1 (AE FInsS)
theorem sv_InsSS {w w' : World} {v : Value} {x : List (List MIns)} (h : FInsSS w v x) (hb : Below w.heap.size w w') : FInsSS w' v x := ArgRow.below (E := (AE FInsS)) (stay_ae (F := FInsS) (fun _ _ _ _ h hb => sv_InsS h hb)) h hb

abbrev OIntS := SO 3 cI
theorem gv_IntS : GoodV OIntS := good_so _ _
abbrev FIntS := ArgRow 1 AI
theorem sv_IntS {w w' : World} {v : Value} {x : List Int} (h : FIntS w v x) (hb : Below w.heap.size w w') : FIntS w' v x := ArgRow.below (E := AI) @stay_ai h hb

structure MASlot where
 fUsed : Bool
 fPid : Int
 fParent : Int
 fState : Int
 fProg : Int
 fPc : Int
 fUntil : Int
 fCode : Int
 fRegs : List Int
 fPt : List Int
 fFds : List Int
 deriving Inhabited, DecidableEq
def MASlot.cells (x : MASlot) (v1 v2 v3 : Value) : List Value := [cB x.fUsed, cI x.fPid, cI x.fParent, cI x.fState, cI x.fProg, cI x.fPc, cI x.fUntil, cI x.fCode, v1, v2, v3]
def PASlot (w : World) (cs : List Value) (x : MASlot) (b : List Nat) : Prop := ∃ v1 v2 v3 b1 b2 b3, cs = x.cells v1 v2 v3 ∧ OIntS w v1 x.fRegs b1 ∧ OIntS w v2 x.fPt b2 ∧ OIntS w v3 x.fFds b3 ∧ b = b1 ++ (b2 ++ b3)
theorem good_ASlot : RowC.Good PASlot := by
 refine ⟨?_, ?_⟩
 ·rintro w w' cs x b bs ⟨v1, v2, v3, b1, b2, b3, rfl, h1, h2, h3, rfl⟩ hk hd
  exact ⟨v1, v2, v3, b1, b2, b3, rfl, gv_IntS.keep h1 hk (fun y hy => hd y (by simp [hy])), gv_IntS.keep h2 hk (fun y hy => hd y (by simp [hy])), gv_IntS.keep h3 hk (fun y hy => hd y (by simp [hy])), rfl⟩
 ·rintro w cs x b ⟨v1, v2, v3, b1, b2, b3, rfl, h1, h2, h3, rfl⟩ y hy
  simp only [List.mem_append] at hy
  rcases hy with hy | hy | hy
  ·exact gv_IntS.lt h1 y hy
  ·exact gv_IntS.lt h2 y hy
  ·exact gv_IntS.lt h3 y hy
def RASlot (x : MASlot) : Prop := Rng x.fPid ∧ Rng x.fParent ∧ Rng x.fState ∧ Rng x.fProg ∧ Rng x.fPc ∧ Rng x.fUntil ∧ Rng x.fCode
def AASlot (w : World) (cs : List Value) (x : MASlot) : Prop := ∃ v1 v2 v3, cs = x.cells v1 v2 v3 ∧ FIntS w v1 x.fRegs ∧ FIntS w v2 x.fPt ∧ FIntS w v3 x.fFds ∧ RASlot x
theorem stay_ASlot : Stays AASlot := fun ⟨v1, v2, v3, h0, h1, h2, h3, hr⟩ hb => ⟨v1, v2, v3, h0, sv_IntS h1 hb, sv_IntS h2 hb, sv_IntS h3 hb, hr⟩

abbrev OASlotS := Row 56 11 PASlot
theorem gv_ASlotS : GoodV OASlotS := gvRow _ _ good_ASlot
abbrev FASlotS := ArgRow 11 AASlot
theorem sv_ASlotS {w w' : World} {v : Value} {x : List MASlot} (h : FASlotS w v x) (hb : Below w.heap.size w w') : FASlotS w' v x := ArgRow.below (E := AASlot) @stay_ASlot h hb

abbrev OBoolS := SO 4 cB
theorem gv_BoolS : GoodV OBoolS := good_so _ _
abbrev FBoolS := ArgRow 1 AB
theorem sv_BoolS {w w' : World} {v : Value} {x : List Bool} (h : FBoolS w v x) (hb : Below w.heap.size w w') : FBoolS w' v x := ArgRow.below (E := AB) @stay_ab h hb

structure MAOpen where
 fUsed : Bool
 fKind : Int
 fTarget : Int
 fOff : Int
 fRefs : Int
 deriving Inhabited, DecidableEq
def MAOpen.cells (x : MAOpen) : List Value := [cB x.fUsed, cI x.fKind, cI x.fTarget, cI x.fOff, cI x.fRefs]
def PAOpen (w : World) (cs : List Value) (x : MAOpen) (b : List Nat) : Prop := cs = x.cells ∧ b = []
theorem good_AOpen : RowC.Good PAOpen := ⟨fun h _ _ => h, fun h y hy => by rw [h.2] at hy; simp at hy⟩
def RAOpen (x : MAOpen) : Prop := Rng x.fKind ∧ Rng x.fTarget ∧ Rng x.fOff ∧ Rng x.fRefs
def AAOpen (w : World) (cs : List Value) (x : MAOpen) : Prop := cs = x.cells ∧ RAOpen x
theorem stay_AOpen : Stays AAOpen := fun h _ => h

abbrev OAOpenS := Row 84 5 PAOpen
theorem gv_AOpenS : GoodV OAOpenS := gvRow _ _ good_AOpen
abbrev FAOpenS := ArgRow 5 AAOpen
theorem sv_AOpenS {w w' : World} {v : Value} {x : List MAOpen} (h : FAOpenS w v x) (hb : Below w.heap.size w w') : FAOpenS w' v x := ArgRow.below (E := AAOpen) @stay_AOpen h hb

structure MARing where
 fUsed : Bool
 fBuf : List Int
 fHead : Int
 fLen : Int
 deriving Inhabited, DecidableEq
def MARing.cells (x : MARing) (v1 : Value) : List Value := [cB x.fUsed, v1, cI x.fHead, cI x.fLen]
def PARing (w : World) (cs : List Value) (x : MARing) (b : List Nat) : Prop := ∃ v1 b1, cs = x.cells v1 ∧ OIntS w v1 x.fBuf b1 ∧ b = b1
theorem good_ARing : RowC.Good PARing := by
 refine ⟨?_, ?_⟩
 ·rintro w w' cs x b bs ⟨v1, b1, rfl, h1, rfl⟩ hk hd
  exact ⟨v1, _, rfl, gv_IntS.keep h1 hk (fun y hy => hd y hy), rfl⟩
 ·rintro w cs x b ⟨v1, b1, rfl, h1, rfl⟩ y hy
  exact gv_IntS.lt h1 y hy
def RARing (x : MARing) : Prop := Rng x.fHead ∧ Rng x.fLen
def AARing (w : World) (cs : List Value) (x : MARing) : Prop := ∃ v1, cs = x.cells v1 ∧ FIntS w v1 x.fBuf ∧ RARing x
theorem stay_ARing : Stays AARing := fun ⟨v1, h0, h1, hr⟩ hb => ⟨v1, h0, sv_IntS h1 hb, hr⟩

abbrev OARingS := Row 40 4 PARing
theorem gv_ARingS : GoodV OARingS := gvRow _ _ good_ARing
abbrev FARingS := ArgRow 4 AARing
theorem sv_ARingS {w w' : World} {v : Value} {x : List MARing} (h : FARingS w v x) (hb : Below w.heap.size w w') : FARingS w' v x := ArgRow.below (E := AARing) @stay_ARing h hb

structure MAFile where
 fUsed : Bool
 fData : List Int
 deriving Inhabited, DecidableEq
def MAFile.cells (x : MAFile) (v1 : Value) : List Value := [cB x.fUsed, v1]
def PAFile (w : World) (cs : List Value) (x : MAFile) (b : List Nat) : Prop := ∃ v1 b1, cs = x.cells v1 ∧ OIntS w v1 x.fData b1 ∧ b = b1
theorem good_AFile : RowC.Good PAFile := by
 refine ⟨?_, ?_⟩
 ·rintro w w' cs x b bs ⟨v1, b1, rfl, h1, rfl⟩ hk hd
  exact ⟨v1, _, rfl, gv_IntS.keep h1 hk (fun y hy => hd y hy), rfl⟩
 ·rintro w cs x b ⟨v1, b1, rfl, h1, rfl⟩ y hy
  exact gv_IntS.lt h1 y hy
def RAFile (x : MAFile) : Prop := True
def AAFile (w : World) (cs : List Value) (x : MAFile) : Prop := ∃ v1, cs = x.cells v1 ∧ FIntS w v1 x.fData ∧ RAFile x
theorem stay_AFile : Stays AAFile := fun ⟨v1, h0, h1, hr⟩ hb => ⟨v1, h0, sv_IntS h1 hb, hr⟩

abbrev OAFileS := Row 85 2 PAFile
theorem gv_AFileS : GoodV OAFileS := gvRow _ _ good_AFile
abbrev FAFileS := ArgRow 2 AAFile
theorem sv_AFileS {w w' : World} {v : Value} {x : List MAFile} (h : FAFileS w v x) (hb : Below w.heap.size w w') : FAFileS w' v x := ArgRow.below (E := AAFile) @stay_AFile h hb

structure MArrays where
 fNext : Int
 fTick : Int
 fProgs : List (List MIns)
 fSlots : List MASlot
 fRam : List Int
 fMap : List Bool
 fOpens : List MAOpen
 fPipes : List MARing
 fFiles : List MAFile
 fReady : MARing
 fOut : List Int
 deriving Inhabited, DecidableEq
def MArrays.cells (x : MArrays) (v1 v2 v3 v4 v5 v6 v7 v8 v9 : Value) : List Value := [cI x.fNext, cI x.fTick, v1, v2, v3, v4, v5, v6, v7, cB x.fReady.fUsed, v8, cI x.fReady.fHead, cI x.fReady.fLen, v9]
def PArrays (w : World) (cs : List Value) (x : MArrays) (b : List Nat) : Prop := ∃ v1 v2 v3 v4 v5 v6 v7 v8 v9 b1 b2 b3 b4 b5 b6 b7 b8 b9, cs = x.cells v1 v2 v3 v4 v5 v6 v7 v8 v9 ∧ OInsSS w v1 x.fProgs b1 ∧ OASlotS w v2 x.fSlots b2 ∧ OIntS w v3 x.fRam b3 ∧ OBoolS w v4 x.fMap b4 ∧ OAOpenS w v5 x.fOpens b5 ∧ OARingS w v6 x.fPipes b6 ∧ OAFileS w v7 x.fFiles b7 ∧ OIntS w v8 x.fReady.fBuf b8 ∧ OIntS w v9 x.fOut b9 ∧ b = b1 ++ (b2 ++ (b3 ++ (b4 ++ (b5 ++ (b6 ++ (b7 ++ (b8 ++ b9)))))))
theorem good_Arrays : RowC.Good PArrays := by
 refine ⟨?_, ?_⟩
 ·rintro w w' cs x b bs ⟨v1, v2, v3, v4, v5, v6, v7, v8, v9, b1, b2, b3, b4, b5, b6, b7, b8, b9, rfl, h1, h2, h3, h4, h5, h6, h7, h8, h9, rfl⟩ hk hd
  exact ⟨v1, v2, v3, v4, v5, v6, v7, v8, v9, b1, b2, b3, b4, b5, b6, b7, b8, b9, rfl, gv_InsSS.keep h1 hk (fun y hy => hd y (by simp [hy])), gv_ASlotS.keep h2 hk (fun y hy => hd y (by simp [hy])), gv_IntS.keep h3 hk (fun y hy => hd y (by simp [hy])), gv_BoolS.keep h4 hk (fun y hy => hd y (by simp [hy])), gv_AOpenS.keep h5 hk (fun y hy => hd y (by simp [hy])), gv_ARingS.keep h6 hk (fun y hy => hd y (by simp [hy])), gv_AFileS.keep h7 hk (fun y hy => hd y (by simp [hy])), gv_IntS.keep h8 hk (fun y hy => hd y (by simp [hy])), gv_IntS.keep h9 hk (fun y hy => hd y (by simp [hy])), rfl⟩
 ·rintro w cs x b ⟨v1, v2, v3, v4, v5, v6, v7, v8, v9, b1, b2, b3, b4, b5, b6, b7, b8, b9, rfl, h1, h2, h3, h4, h5, h6, h7, h8, h9, rfl⟩ y hy
  simp only [List.mem_append] at hy
  rcases hy with hy | hy | hy | hy | hy | hy | hy | hy | hy
  ·exact gv_InsSS.lt h1 y hy
  ·exact gv_ASlotS.lt h2 y hy
  ·exact gv_IntS.lt h3 y hy
  ·exact gv_BoolS.lt h4 y hy
  ·exact gv_AOpenS.lt h5 y hy
  ·exact gv_ARingS.lt h6 y hy
  ·exact gv_AFileS.lt h7 y hy
  ·exact gv_IntS.lt h8 y hy
  ·exact gv_IntS.lt h9 y hy
def RArrays (x : MArrays) : Prop := Rng x.fNext ∧ Rng x.fTick ∧ Rng x.fReady.fHead ∧ Rng x.fReady.fLen
def AArrays (w : World) (cs : List Value) (x : MArrays) : Prop := ∃ v1 v2 v3 v4 v5 v6 v7 v8 v9, cs = x.cells v1 v2 v3 v4 v5 v6 v7 v8 v9 ∧ FInsSS w v1 x.fProgs ∧ FASlotS w v2 x.fSlots ∧ FIntS w v3 x.fRam ∧ FBoolS w v4 x.fMap ∧ FAOpenS w v5 x.fOpens ∧ FARingS w v6 x.fPipes ∧ FAFileS w v7 x.fFiles ∧ FIntS w v8 x.fReady.fBuf ∧ FIntS w v9 x.fOut ∧ RArrays x
theorem stay_Arrays : Stays AArrays := fun ⟨v1, v2, v3, v4, v5, v6, v7, v8, v9, h0, h1, h2, h3, h4, h5, h6, h7, h8, h9, hr⟩ hb => ⟨v1, v2, v3, v4, v5, v6, v7, v8, v9, h0, sv_InsSS h1 hb, sv_ASlotS h2 hb, sv_IntS h3 hb, sv_BoolS h4 hb, sv_AOpenS h5 hb, sv_ARingS h6 hb, sv_AFileS h7 hb, sv_IntS h8 hb, sv_IntS h9 hb, hr⟩

def z_Ins (x : MIns) : Nat := 0
def z_InsS (l : List MIns) : Nat := l.length
def z_InsSS (l : List (List MIns)) : Nat := wS z_InsS l
def z_IntS (l : List Int) : Nat := l.length
def z_ASlot (x : MASlot) : Nat := z_IntS x.fRegs + z_IntS x.fPt + z_IntS x.fFds
def z_ASlotS (l : List MASlot) : Nat := wS z_ASlot l
def z_BoolS (l : List Bool) : Nat := l.length
def z_AOpen (x : MAOpen) : Nat := 0
def z_AOpenS (l : List MAOpen) : Nat := l.length
def z_ARing (x : MARing) : Nat := z_IntS x.fBuf
def z_ARingS (l : List MARing) : Nat := wS z_ARing l
def z_AFile (x : MAFile) : Nat := z_IntS x.fData
def z_AFileS (l : List MAFile) : Nat := wS z_AFile l
def z_Arrays (x : MArrays) : Nat := z_InsSS x.fProgs + z_ASlotS x.fSlots + z_IntS x.fRam + z_BoolS x.fMap + z_AOpenS x.fOpens + z_ARingS x.fPipes + z_AFileS x.fFiles + z_ARing x.fReady + z_IntS x.fOut
def G_Ins (x : MIns) : Prop := RIns x
theorem rg_Ins {w : World} {cs : List Value} {x : MIns} (h : AIns w cs x) : G_Ins x := by
 exact h.2
def G_InsS (l : List MIns) : Prop := ∀ (i : Nat) (x : MIns), l[i]? = some x → G_Ins x
theorem rg_InsS {w : World} {v : Value} {l : List MIns} (h : FInsS w v l) : G_InsS l := ArgRow.each h (fun cs x h => rg_Ins h)
def G_InsSS (l : List (List MIns)) : Prop := ∀ (i : Nat) (x : List MIns), l[i]? = some x → G_InsS x
theorem rg_InsSS {w : World} {v : Value} {l : List (List MIns)} (h : FInsSS w v l) : G_InsSS l := ArgRow.each h (fun cs x h => by obtain ⟨v, _, h⟩ := h; exact rg_InsS h)
def G_IntS (l : List Int) : Prop := ∀ (i : Nat) (x : Int), l[i]? = some x → Rng x
theorem rg_IntS {w : World} {v : Value} {l : List Int} (h : FIntS w v l) : G_IntS l := ArgRow.each h (fun cs x h => h.2)
def G_ASlot (x : MASlot) : Prop := RASlot x ∧ G_IntS x.fRegs ∧ G_IntS x.fPt ∧ G_IntS x.fFds
theorem rg_ASlot {w : World} {cs : List Value} {x : MASlot} (h : AASlot w cs x) : G_ASlot x := by
 obtain ⟨v1, v2, v3, _, h1, h2, h3, hr⟩ := h
 exact ⟨hr, rg_IntS h1, rg_IntS h2, rg_IntS h3⟩
def G_ASlotS (l : List MASlot) : Prop := ∀ (i : Nat) (x : MASlot), l[i]? = some x → G_ASlot x
theorem rg_ASlotS {w : World} {v : Value} {l : List MASlot} (h : FASlotS w v l) : G_ASlotS l := ArgRow.each h (fun cs x h => rg_ASlot h)
def G_BoolS (l : List Bool) : Prop := True
theorem rg_BoolS {w : World} {v : Value} {l : List Bool} (h : FBoolS w v l) : G_BoolS l := trivial
def G_AOpen (x : MAOpen) : Prop := RAOpen x
theorem rg_AOpen {w : World} {cs : List Value} {x : MAOpen} (h : AAOpen w cs x) : G_AOpen x := by
 exact h.2
def G_AOpenS (l : List MAOpen) : Prop := ∀ (i : Nat) (x : MAOpen), l[i]? = some x → G_AOpen x
theorem rg_AOpenS {w : World} {v : Value} {l : List MAOpen} (h : FAOpenS w v l) : G_AOpenS l := ArgRow.each h (fun cs x h => rg_AOpen h)
def G_ARing (x : MARing) : Prop := RARing x ∧ G_IntS x.fBuf
theorem rg_ARing {w : World} {cs : List Value} {x : MARing} (h : AARing w cs x) : G_ARing x := by
 obtain ⟨v1, _, h1, hr⟩ := h
 exact ⟨hr, rg_IntS h1⟩
def G_ARingS (l : List MARing) : Prop := ∀ (i : Nat) (x : MARing), l[i]? = some x → G_ARing x
theorem rg_ARingS {w : World} {v : Value} {l : List MARing} (h : FARingS w v l) : G_ARingS l := ArgRow.each h (fun cs x h => rg_ARing h)
def G_AFile (x : MAFile) : Prop := RAFile x ∧ G_IntS x.fData
theorem rg_AFile {w : World} {cs : List Value} {x : MAFile} (h : AAFile w cs x) : G_AFile x := by
 obtain ⟨v1, _, h1, hr⟩ := h
 exact ⟨hr, rg_IntS h1⟩
def G_AFileS (l : List MAFile) : Prop := ∀ (i : Nat) (x : MAFile), l[i]? = some x → G_AFile x
theorem rg_AFileS {w : World} {v : Value} {l : List MAFile} (h : FAFileS w v l) : G_AFileS l := ArgRow.each h (fun cs x h => rg_AFile h)
def G_Arrays (x : MArrays) : Prop := RArrays x ∧ G_InsSS x.fProgs ∧ G_ASlotS x.fSlots ∧ G_IntS x.fRam ∧ G_BoolS x.fMap ∧ G_AOpenS x.fOpens ∧ G_ARingS x.fPipes ∧ G_AFileS x.fFiles ∧ G_IntS x.fReady.fBuf ∧ G_IntS x.fOut
theorem rg_Arrays {w : World} {cs : List Value} {x : MArrays} (h : AArrays w cs x) : G_Arrays x := by
 obtain ⟨v1, v2, v3, v4, v5, v6, v7, v8, v9, _, h1, h2, h3, h4, h5, h6, h7, h8, h9, hr⟩ := h
 exact ⟨hr, rg_InsSS h1, rg_ASlotS h2, rg_IntS h3, rg_BoolS h4, rg_AOpenS h5, rg_ARingS h6, rg_AFileS h7, rg_IntS h8, rg_IntS h9⟩
section
variable {H : Type} {enc : TypeId × Value → H} {w : World} {base : Nat} {spare : Nat → Bool} {held : Bool}
theorem c_Ins : Try.prog.cellsOf 127 = 4 := by kernel_rfl
theorem c_Int : Try.prog.cellsOf 3 = 1 := by kernel_rfl
theorem c_InsS : Try.prog.cellsOf 74 = 1 := by kernel_rfl
theorem c_InsSS : Try.prog.cellsOf 22 = 1 := by kernel_rfl
theorem c_IntS : Try.prog.cellsOf 24 = 1 := by kernel_rfl
theorem c_ASlot : Try.prog.cellsOf 76 = 11 := by kernel_rfl
theorem c_Bool : Try.prog.cellsOf 4 = 1 := by kernel_rfl
theorem c_ASlotS : Try.prog.cellsOf 23 = 1 := by kernel_rfl
theorem c_BoolS : Try.prog.cellsOf 25 = 1 := by kernel_rfl
theorem c_AOpen : Try.prog.cellsOf 90 = 5 := by kernel_rfl
theorem c_AOpenS : Try.prog.cellsOf 26 = 1 := by kernel_rfl
theorem c_ARing : Try.prog.cellsOf 30 = 4 := by kernel_rfl
theorem c_ARingS : Try.prog.cellsOf 27 = 1 := by kernel_rfl
theorem c_AFile : Try.prog.cellsOf 79 = 2 := by kernel_rfl
theorem c_AFileS : Try.prog.cellsOf 28 = 1 := by kernel_rfl
theorem c_Arrays : Try.prog.cellsOf 32 = 14 := by kernel_rfl
theorem trod_Int (fuel : Nat) (cs : List Value) (x : DataW H × List MemPlace) (h : DataW.trod enc Try.prog w base spare held fuel 3 cs = some x) : ∃ a, AI w cs a := by
 obtain ⟨n, e, _, hw⟩ := DataW.trod_int Try.underlying3 h
 exact ⟨n, e, rng_wf hw⟩
theorem trod_Bool (fuel : Nat) (cs : List Value) (x : DataW H × List MemPlace) (h : DataW.trod enc Try.prog w base spare held fuel 4 cs = some x) : ∃ a, AB w cs a := by
 obtain ⟨n, e, _⟩ := DataW.trod_bool Try.underlying4 h
 exact ⟨n, e⟩
set_option maxHeartbeats 1000000 in
theorem trod_Ins (fuel : Nat) (cs : List Value) (x : DataW H × List MemPlace) (h : DataW.trod enc Try.prog w base spare held fuel 127 cs = some x) : ∃ o, AIns w cs o := by
 obtain ⟨xs, n, _, _, hl, hxl, hf⟩ := DataW.trod_struct Try.underlying127 h
 rw [c_Ins] at hl
 match xs, hxl, cs, hl with
 | [y0, y1, y2, y3], _, [u0, u1, u2, u3], _ =>
  have g0 := hf 0 _ rfl
  have g1 := hf 1 _ rfl
  have g2 := hf 2 _ rfl
  have g3 := hf 3 _ rfl
  simp [c_Int] at g0 g1 g2 g3
  obtain ⟨m0, q0⟩ := trod_Int _ _ _ g0
  obtain ⟨q0, r0⟩ := q0
  simp only [cI, List.cons.injEq, and_true] at q0
  subst q0
  obtain ⟨m1, q1⟩ := trod_Int _ _ _ g1
  obtain ⟨q1, r1⟩ := q1
  simp only [cI, List.cons.injEq, and_true] at q1
  subst q1
  obtain ⟨m2, q2⟩ := trod_Int _ _ _ g2
  obtain ⟨q2, r2⟩ := q2
  simp only [cI, List.cons.injEq, and_true] at q2
  subst q2
  obtain ⟨m3, q3⟩ := trod_Int _ _ _ g3
  obtain ⟨q3, r3⟩ := q3
  simp only [cI, List.cons.injEq, and_true] at q3
  subst q3
  exact ⟨⟨m0, m1, m2, m3⟩, rfl, ⟨r0, r1, r2, r3⟩⟩
theorem arg_InsS {fuel : Nat} {u : Value} {x : DataW H × List MemPlace} (h : DataW.trod enc Try.prog w base spare held fuel 74 [u] = some x) : ∃ l, FInsS w u l := arg_row Try.underlying74 c_Ins trod_Ins h
theorem trod_InsS (fuel : Nat) (cs : List Value) (x : DataW H × List MemPlace) (h : DataW.trod enc Try.prog w base spare held fuel 74 cs = some x) : ∃ a, AE FInsS w cs a := by
 obtain ⟨u, rfl⟩ := trod_one Try.underlying74 h
 obtain ⟨l, hl⟩ := arg_InsS h
 exact ⟨l, u, rfl, hl⟩
theorem arg_InsSS {fuel : Nat} {u : Value} {x : DataW H × List MemPlace} (h : DataW.trod enc Try.prog w base spare held fuel 22 [u] = some x) : ∃ l, FInsSS w u l := arg_row Try.underlying22 c_InsS trod_InsS h
theorem arg_IntS {fuel : Nat} {u : Value} {x : DataW H × List MemPlace} (h : DataW.trod enc Try.prog w base spare held fuel 24 [u] = some x) : ∃ l, FIntS w u l := arg_row Try.underlying24 c_Int trod_Int h
set_option maxHeartbeats 1000000 in
theorem trod_ASlot (fuel : Nat) (cs : List Value) (x : DataW H × List MemPlace) (h : DataW.trod enc Try.prog w base spare held fuel 76 cs = some x) : ∃ o, AASlot w cs o := by
 obtain ⟨xs, n, _, _, hl, hxl, hf⟩ := DataW.trod_struct Try.underlying76 h
 rw [c_ASlot] at hl
 match xs, hxl, cs, hl with
 | [y0, y1, y2, y3, y4, y5, y6, y7, y8, y9, y10], _, [u0, u1, u2, u3, u4, u5, u6, u7, u8, u9, u10], _ =>
  have g0 := hf 0 _ rfl
  have g1 := hf 1 _ rfl
  have g2 := hf 2 _ rfl
  have g3 := hf 3 _ rfl
  have g4 := hf 4 _ rfl
  have g5 := hf 5 _ rfl
  have g6 := hf 6 _ rfl
  have g7 := hf 7 _ rfl
  have g8 := hf 8 _ rfl
  have g9 := hf 9 _ rfl
  have g10 := hf 10 _ rfl
  simp [c_Bool, c_Int, c_IntS] at g0 g1 g2 g3 g4 g5 g6 g7 g8 g9 g10
  obtain ⟨m0, q0⟩ := trod_Bool _ _ _ g0
  unfold AB at q0
  simp only [cB, List.cons.injEq, and_true] at q0
  subst q0
  obtain ⟨m1, q1⟩ := trod_Int _ _ _ g1
  obtain ⟨q1, r1⟩ := q1
  simp only [cI, List.cons.injEq, and_true] at q1
  subst q1
  obtain ⟨m2, q2⟩ := trod_Int _ _ _ g2
  obtain ⟨q2, r2⟩ := q2
  simp only [cI, List.cons.injEq, and_true] at q2
  subst q2
  obtain ⟨m3, q3⟩ := trod_Int _ _ _ g3
  obtain ⟨q3, r3⟩ := q3
  simp only [cI, List.cons.injEq, and_true] at q3
  subst q3
  obtain ⟨m4, q4⟩ := trod_Int _ _ _ g4
  obtain ⟨q4, r4⟩ := q4
  simp only [cI, List.cons.injEq, and_true] at q4
  subst q4
  obtain ⟨m5, q5⟩ := trod_Int _ _ _ g5
  obtain ⟨q5, r5⟩ := q5
  simp only [cI, List.cons.injEq, and_true] at q5
  subst q5
  obtain ⟨m6, q6⟩ := trod_Int _ _ _ g6
  obtain ⟨q6, r6⟩ := q6
  simp only [cI, List.cons.injEq, and_true] at q6
  subst q6
  obtain ⟨m7, q7⟩ := trod_Int _ _ _ g7
  obtain ⟨q7, r7⟩ := q7
  simp only [cI, List.cons.injEq, and_true] at q7
  subst q7
  obtain ⟨m8, q8⟩ := arg_IntS g8
  obtain ⟨m9, q9⟩ := arg_IntS g9
  obtain ⟨m10, q10⟩ := arg_IntS g10
  exact ⟨⟨m0, m1, m2, m3, m4, m5, m6, m7, m8, m9, m10⟩, u8, u9, u10, rfl, q8, q9, q10, ⟨r1, r2, r3, r4, r5, r6, r7⟩⟩
theorem arg_ASlotS {fuel : Nat} {u : Value} {x : DataW H × List MemPlace} (h : DataW.trod enc Try.prog w base spare held fuel 23 [u] = some x) : ∃ l, FASlotS w u l := arg_row Try.underlying23 c_ASlot trod_ASlot h
theorem arg_BoolS {fuel : Nat} {u : Value} {x : DataW H × List MemPlace} (h : DataW.trod enc Try.prog w base spare held fuel 25 [u] = some x) : ∃ l, FBoolS w u l := arg_row Try.underlying25 c_Bool trod_Bool h
set_option maxHeartbeats 1000000 in
theorem trod_AOpen (fuel : Nat) (cs : List Value) (x : DataW H × List MemPlace) (h : DataW.trod enc Try.prog w base spare held fuel 90 cs = some x) : ∃ o, AAOpen w cs o := by
 obtain ⟨xs, n, _, _, hl, hxl, hf⟩ := DataW.trod_struct Try.underlying90 h
 rw [c_AOpen] at hl
 match xs, hxl, cs, hl with
 | [y0, y1, y2, y3, y4], _, [u0, u1, u2, u3, u4], _ =>
  have g0 := hf 0 _ rfl
  have g1 := hf 1 _ rfl
  have g2 := hf 2 _ rfl
  have g3 := hf 3 _ rfl
  have g4 := hf 4 _ rfl
  simp [c_Bool, c_Int] at g0 g1 g2 g3 g4
  obtain ⟨m0, q0⟩ := trod_Bool _ _ _ g0
  unfold AB at q0
  simp only [cB, List.cons.injEq, and_true] at q0
  subst q0
  obtain ⟨m1, q1⟩ := trod_Int _ _ _ g1
  obtain ⟨q1, r1⟩ := q1
  simp only [cI, List.cons.injEq, and_true] at q1
  subst q1
  obtain ⟨m2, q2⟩ := trod_Int _ _ _ g2
  obtain ⟨q2, r2⟩ := q2
  simp only [cI, List.cons.injEq, and_true] at q2
  subst q2
  obtain ⟨m3, q3⟩ := trod_Int _ _ _ g3
  obtain ⟨q3, r3⟩ := q3
  simp only [cI, List.cons.injEq, and_true] at q3
  subst q3
  obtain ⟨m4, q4⟩ := trod_Int _ _ _ g4
  obtain ⟨q4, r4⟩ := q4
  simp only [cI, List.cons.injEq, and_true] at q4
  subst q4
  exact ⟨⟨m0, m1, m2, m3, m4⟩, rfl, ⟨r1, r2, r3, r4⟩⟩
theorem arg_AOpenS {fuel : Nat} {u : Value} {x : DataW H × List MemPlace} (h : DataW.trod enc Try.prog w base spare held fuel 26 [u] = some x) : ∃ l, FAOpenS w u l := arg_row Try.underlying26 c_AOpen trod_AOpen h
set_option maxHeartbeats 1000000 in
theorem trod_ARing (fuel : Nat) (cs : List Value) (x : DataW H × List MemPlace) (h : DataW.trod enc Try.prog w base spare held fuel 30 cs = some x) : ∃ o, AARing w cs o := by
 obtain ⟨xs, n, _, _, hl, hxl, hf⟩ := DataW.trod_struct Try.underlying30 h
 rw [c_ARing] at hl
 match xs, hxl, cs, hl with
 | [y0, y1, y2, y3], _, [u0, u1, u2, u3], _ =>
  have g0 := hf 0 _ rfl
  have g1 := hf 1 _ rfl
  have g2 := hf 2 _ rfl
  have g3 := hf 3 _ rfl
  simp [c_Bool, c_Int, c_IntS] at g0 g1 g2 g3
  obtain ⟨m0, q0⟩ := trod_Bool _ _ _ g0
  unfold AB at q0
  simp only [cB, List.cons.injEq, and_true] at q0
  subst q0
  obtain ⟨m1, q1⟩ := arg_IntS g1
  obtain ⟨m2, q2⟩ := trod_Int _ _ _ g2
  obtain ⟨q2, r2⟩ := q2
  simp only [cI, List.cons.injEq, and_true] at q2
  subst q2
  obtain ⟨m3, q3⟩ := trod_Int _ _ _ g3
  obtain ⟨q3, r3⟩ := q3
  simp only [cI, List.cons.injEq, and_true] at q3
  subst q3
  exact ⟨⟨m0, m1, m2, m3⟩, u1, rfl, q1, ⟨r2, r3⟩⟩
theorem arg_ARingS {fuel : Nat} {u : Value} {x : DataW H × List MemPlace} (h : DataW.trod enc Try.prog w base spare held fuel 27 [u] = some x) : ∃ l, FARingS w u l := arg_row Try.underlying27 c_ARing trod_ARing h
set_option maxHeartbeats 1000000 in
theorem trod_AFile (fuel : Nat) (cs : List Value) (x : DataW H × List MemPlace) (h : DataW.trod enc Try.prog w base spare held fuel 79 cs = some x) : ∃ o, AAFile w cs o := by
 obtain ⟨xs, n, _, _, hl, hxl, hf⟩ := DataW.trod_struct Try.underlying79 h
 rw [c_AFile] at hl
 match xs, hxl, cs, hl with
 | [y0, y1], _, [u0, u1], _ =>
  have g0 := hf 0 _ rfl
  have g1 := hf 1 _ rfl
  simp [c_Bool, c_IntS] at g0 g1
  obtain ⟨m0, q0⟩ := trod_Bool _ _ _ g0
  unfold AB at q0
  simp only [cB, List.cons.injEq, and_true] at q0
  subst q0
  obtain ⟨m1, q1⟩ := arg_IntS g1
  exact ⟨⟨m0, m1⟩, u1, rfl, q1, trivial⟩
theorem arg_AFileS {fuel : Nat} {u : Value} {x : DataW H × List MemPlace} (h : DataW.trod enc Try.prog w base spare held fuel 28 [u] = some x) : ∃ l, FAFileS w u l := arg_row Try.underlying28 c_AFile trod_AFile h
set_option maxHeartbeats 1000000 in
theorem trod_Arrays (fuel : Nat) (cs : List Value) (x : DataW H × List MemPlace) (h : DataW.trod enc Try.prog w base spare held fuel 32 cs = some x) : ∃ o, AArrays w cs o := by
 obtain ⟨xs, n, _, _, hl, hxl, hf⟩ := DataW.trod_struct Try.underlying32 h
 rw [c_Arrays] at hl
 match xs, hxl, cs, hl with
 | [y0, y1, y2, y3, y4, y5, y6, y7, y8, y9, y10], _, [u0, u1, u2, u3, u4, u5, u6, u7, u8, u9, u10, u11, u12, u13], _ =>
  have g0 := hf 0 _ rfl
  have g1 := hf 1 _ rfl
  have g2 := hf 2 _ rfl
  have g3 := hf 3 _ rfl
  have g4 := hf 4 _ rfl
  have g5 := hf 5 _ rfl
  have g6 := hf 6 _ rfl
  have g7 := hf 7 _ rfl
  have g8 := hf 8 _ rfl
  have g9 := hf 9 _ rfl
  have g10 := hf 10 _ rfl
  simp [c_AFileS, c_AOpenS, c_ARing, c_ARingS, c_ASlotS, c_BoolS, c_InsSS, c_Int, c_IntS] at g0 g1 g2 g3 g4 g5 g6 g7 g8 g9 g10
  obtain ⟨m0, q0⟩ := trod_Int _ _ _ g0
  obtain ⟨q0, r0⟩ := q0
  simp only [cI, List.cons.injEq, and_true] at q0
  subst q0
  obtain ⟨m1, q1⟩ := trod_Int _ _ _ g1
  obtain ⟨q1, r1⟩ := q1
  simp only [cI, List.cons.injEq, and_true] at q1
  subst q1
  obtain ⟨m2, q2⟩ := arg_InsSS g2
  obtain ⟨m3, q3⟩ := arg_ASlotS g3
  obtain ⟨m4, q4⟩ := arg_IntS g4
  obtain ⟨m5, q5⟩ := arg_BoolS g5
  obtain ⟨m6, q6⟩ := arg_AOpenS g6
  obtain ⟨m7, q7⟩ := arg_ARingS g7
  obtain ⟨m8, q8⟩ := arg_AFileS g8
  obtain ⟨m9, q9⟩ := trod_ARing _ _ _ g9
  obtain ⟨s9_1, e9, p9_1, r9⟩ := q9
  unfold MARing.cells at e9
  simp only [List.cons.injEq, and_true] at e9
  obtain ⟨d9_0, d9_1, d9_2, d9_3⟩ := e9
  subst d9_0 d9_1 d9_2 d9_3
  obtain ⟨m10, q10⟩ := arg_IntS g10
  exact ⟨⟨m0, m1, m2, m3, m4, m5, m6, m7, m8, m9, m10⟩, u2, u3, u4, u5, u6, u7, u8, _, u13, rfl, q2, q3, q4, q5, q6, q7, q8, p9_1, q10, ⟨r0, r1, r9.1, r9.2⟩⟩
def IsArrays (w : World) (v : Value) : Prop := ∃ x cs, v = .agg cs.toArray ∧ AArrays w cs x
theorem open_Arrays {v : Value} {d : DataW H} {ps : List MemPlace} {b0 : Nat} {r : Reach} (hval : Value.okWide Try.prog w r b0 32 v) (h : DataW.Trod enc Try.prog w base spare held 32 v d ps) : IsArrays w v := by
 obtain ⟨cs, rfl, hcs⟩ := okWide_struct Try.underlying32 hval
 obtain ⟨fuel, hf⟩ := h
 obtain ⟨x, hx⟩ := trod_Arrays fuel _ _ hf
 exact ⟨x, cs.toList, by simp, by simpa [Value.cells] using hx⟩
end

end Go.Proofs.Ytncjnleobeaigaa.TyM
