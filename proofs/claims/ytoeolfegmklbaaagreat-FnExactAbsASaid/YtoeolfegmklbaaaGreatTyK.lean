/- The law's marks, and what it finds of them. Condition: none. -/
import Derived.Test.YtoeolfegmklbaaaGreatTyM
namespace Go.Proofs.YtoeolfegmklbaaaGreat.TyK
open Go.RowKit Go.ChangeShapes Go.WideShapes Go.Deep Num RowC TyA TyM
set_option maxRecDepth 100000
set_option linter.unusedVariables false
set_option linter.unusedSimpArgs false

theorem cB_mB (k j : Nat) : cB (mB (k + j)) = .bool (((k : Int) + j) % 3 == 0) := by
 unfold cB mB
 congr 1
 rw [Bool.eq_iff_iff]
 simp
 omega
theorem cB_x (k : Nat) (x : Int) (h : x = (k : Int)) : Value.bool (mB k) = .bool (x % 3 == 0) := by
 subst h
 have := cB_mB k 0
 simpa [cB] using this
def cE_Ins (x : MIns) : Nat := 4
def mE_Ins (k : Nat) (x : MIns) : MIns := ⟨(k : Int), (k : Int) + 1, (k : Int) + 1 + 1, (k : Int) + 1 + 1 + 1⟩

def c_InsS (l : List MIns) : Nat := sumG cE_Ins l
def m_InsS (k : Nat) (l : List MIns) : List MIns := markedG cE_Ins mE_Ins l k
theorem cb_InsS (l : List MIns) : c_InsS l ≤ 16 * z_InsS l := by
 have := sum_le (f := cE_Ins) (g := fun _ => 0) (s := 4) (fun x => by unfold cE_Ins; omega) l
 have h0 : sumW (fun _ : MIns => 0) l = 0 := sumW_zero l
 unfold c_InsS z_InsS
 omega
theorem ml_InsS (k : Nat) (l : List MIns) : (m_InsS k l).length = l.length := markedG_length _ _ _ _

def c_InsSS (l : List (List MIns)) : Nat := sumG c_InsS l
def m_InsSS (k : Nat) (l : List (List MIns)) : List (List MIns) := markedG c_InsS m_InsS l k
theorem cb_InsSS (l : List (List MIns)) : c_InsSS l ≤ 16 * z_InsSS l := by
 have := sum_le (f := c_InsS) (g := z_InsS) (s := 0) (fun x => by have := cb_InsS x; omega) l
 unfold c_InsSS z_InsSS wS
 omega
theorem ml_InsSS (k : Nat) (l : List (List MIns)) : (m_InsSS k l).length = l.length := markedG_length _ _ _ _

def c_IntS (l : List Int) : Nat := l.length
def m_IntS (k : Nat) (l : List Int) : List Int := mkl mI k l.length
theorem cb_IntS (l : List Int) : c_IntS l ≤ 16 * z_IntS l := by unfold c_IntS z_IntS; omega
theorem ml_IntS (k : Nat) (l : List Int) : (m_IntS k l).length = l.length := mkl_length _ _ _

def cE_ASlot (x : MASlot) : Nat := 8 + c_IntS x.fRegs + c_IntS x.fPt + c_IntS x.fFds
def mE_ASlot (k : Nat) (x : MASlot) : MASlot := ⟨mB (k), (k : Int) + 1, (k : Int) + 1 + 1, (k : Int) + 1 + 1 + 1, (k : Int) + 1 + 1 + 1 + 1, (k : Int) + 1 + 1 + 1 + 1 + 1, (k : Int) + 1 + 1 + 1 + 1 + 1 + 1, (k : Int) + 1 + 1 + 1 + 1 + 1 + 1 + 1, m_IntS (k + 8) x.fRegs, m_IntS (k + 8 + c_IntS x.fRegs) x.fPt, m_IntS (k + 8 + c_IntS x.fRegs + c_IntS x.fPt) x.fFds⟩
theorem cb_ASlotE (x : MASlot) : cE_ASlot x ≤ 8 + 16 * z_ASlot x := by
 have := cb_IntS x.fRegs
 have := cb_IntS x.fPt
 have := cb_IntS x.fFds
 unfold cE_ASlot z_ASlot
 omega
def c_ASlot (x : MASlot) : Nat := c_IntS x.fRegs + c_IntS x.fPt + c_IntS x.fFds
def c_ASlotS (l : List MASlot) : Nat := sumG cE_ASlot l
def m_ASlotS (k : Nat) (l : List MASlot) : List MASlot := markedG cE_ASlot mE_ASlot l k
theorem cb_ASlotS (l : List MASlot) : c_ASlotS l ≤ 16 * z_ASlotS l := by
 have := sum_le (f := cE_ASlot) (g := z_ASlot) (s := 8) (fun x => by have := cb_ASlotE x; omega) l
 unfold c_ASlotS z_ASlotS wS
 omega
def c_BoolS (l : List Bool) : Nat := l.length
def m_BoolS (k : Nat) (l : List Bool) : List Bool := mkl mB k l.length
theorem cb_BoolS (l : List Bool) : c_BoolS l ≤ 16 * z_BoolS l := by unfold c_BoolS z_BoolS; omega
def cE_AOpen (x : MAOpen) : Nat := 5
def mE_AOpen (k : Nat) (x : MAOpen) : MAOpen := ⟨mB (k), (k : Int) + 1, (k : Int) + 1 + 1, (k : Int) + 1 + 1 + 1, (k : Int) + 1 + 1 + 1 + 1⟩

def c_AOpenS (l : List MAOpen) : Nat := sumG cE_AOpen l
def m_AOpenS (k : Nat) (l : List MAOpen) : List MAOpen := markedG cE_AOpen mE_AOpen l k
theorem cb_AOpenS (l : List MAOpen) : c_AOpenS l ≤ 16 * z_AOpenS l := by
 have := sum_le (f := cE_AOpen) (g := fun _ => 0) (s := 5) (fun x => by unfold cE_AOpen; omega) l
 have h0 : sumW (fun _ : MAOpen => 0) l = 0 := sumW_zero l
 unfold c_AOpenS z_AOpenS
 omega
def cE_ARing (x : MARing) : Nat := 3 + c_IntS x.fBuf
def mE_ARing (k : Nat) (x : MARing) : MARing := ⟨mB (k), m_IntS (k + 1) x.fBuf, ((k + 1 + c_IntS x.fBuf : Nat) : Int), ((k + 1 + c_IntS x.fBuf : Nat) : Int) + 1⟩
theorem cb_ARingE (x : MARing) : cE_ARing x ≤ 3 + 16 * z_ARing x := by
 have := cb_IntS x.fBuf
 unfold cE_ARing z_ARing
 omega
def c_ARing (x : MARing) : Nat := c_IntS x.fBuf
def m_ARing (k : Nat) (x : MARing) : MARing := ⟨x.fUsed, m_IntS (k) x.fBuf, x.fHead, x.fLen⟩
theorem cb_ARing (x : MARing) : c_ARing x ≤ 16 * z_ARing x := by
 have := cb_IntS x.fBuf
 unfold c_ARing z_ARing
 omega

def c_ARingS (l : List MARing) : Nat := sumG cE_ARing l
def m_ARingS (k : Nat) (l : List MARing) : List MARing := markedG cE_ARing mE_ARing l k
theorem cb_ARingS (l : List MARing) : c_ARingS l ≤ 16 * z_ARingS l := by
 have := sum_le (f := cE_ARing) (g := z_ARing) (s := 3) (fun x => by have := cb_ARingE x; omega) l
 unfold c_ARingS z_ARingS wS
 omega
def cE_AFile (x : MAFile) : Nat := 1 + c_IntS x.fData
def mE_AFile (k : Nat) (x : MAFile) : MAFile := ⟨mB (k), m_IntS (k + 1) x.fData⟩
theorem cb_AFileE (x : MAFile) : cE_AFile x ≤ 1 + 16 * z_AFile x := by
 have := cb_IntS x.fData
 unfold cE_AFile z_AFile
 omega
def c_AFile (x : MAFile) : Nat := c_IntS x.fData
def c_AFileS (l : List MAFile) : Nat := sumG cE_AFile l
def m_AFileS (k : Nat) (l : List MAFile) : List MAFile := markedG cE_AFile mE_AFile l k
theorem cb_AFileS (l : List MAFile) : c_AFileS l ≤ 16 * z_AFileS l := by
 have := sum_le (f := cE_AFile) (g := z_AFile) (s := 1) (fun x => by have := cb_AFileE x; omega) l
 unfold c_AFileS z_AFileS wS
 omega
def c_Arrays (x : MArrays) : Nat := c_InsSS x.fProgs + c_ASlotS x.fSlots + c_IntS x.fRam + c_BoolS x.fMap + c_AOpenS x.fOpens + c_ARingS x.fPipes + c_AFileS x.fFiles + c_ARing x.fReady + c_IntS x.fOut
def m_Arrays (k : Nat) (x : MArrays) : MArrays := ⟨x.fNext, x.fTick, m_InsSS (k) x.fProgs, m_ASlotS (k + c_InsSS x.fProgs) x.fSlots, m_IntS (k + c_InsSS x.fProgs + c_ASlotS x.fSlots) x.fRam, m_BoolS (k + c_InsSS x.fProgs + c_ASlotS x.fSlots + c_IntS x.fRam) x.fMap, m_AOpenS (k + c_InsSS x.fProgs + c_ASlotS x.fSlots + c_IntS x.fRam + c_BoolS x.fMap) x.fOpens, m_ARingS (k + c_InsSS x.fProgs + c_ASlotS x.fSlots + c_IntS x.fRam + c_BoolS x.fMap + c_AOpenS x.fOpens) x.fPipes, m_AFileS (k + c_InsSS x.fProgs + c_ASlotS x.fSlots + c_IntS x.fRam + c_BoolS x.fMap + c_AOpenS x.fOpens + c_ARingS x.fPipes) x.fFiles, m_ARing (k + c_InsSS x.fProgs + c_ASlotS x.fSlots + c_IntS x.fRam + c_BoolS x.fMap + c_AOpenS x.fOpens + c_ARingS x.fPipes + c_AFileS x.fFiles) x.fReady, m_IntS (k + c_InsSS x.fProgs + c_ASlotS x.fSlots + c_IntS x.fRam + c_BoolS x.fMap + c_AOpenS x.fOpens + c_ARingS x.fPipes + c_AFileS x.fFiles + c_ARing x.fReady) x.fOut⟩
theorem cb_Arrays (x : MArrays) : c_Arrays x ≤ 16 * z_Arrays x := by
 have := cb_InsSS x.fProgs
 have := cb_ASlotS x.fSlots
 have := cb_IntS x.fRam
 have := cb_BoolS x.fMap
 have := cb_AOpenS x.fOpens
 have := cb_ARingS x.fPipes
 have := cb_AFileS x.fFiles
 have := cb_ARing x.fReady
 have := cb_IntS x.fOut
 unfold c_Arrays z_Arrays
 omega

def cE_Proc (x : MProc) : Nat := 7 + c_IntS x.fCpu.fRegs + c_IntS x.fMem + c_IntS x.fFds
def mE_Proc (k : Nat) (x : MProc) : MProc := ⟨(k : Int), (k : Int) + 1, (k : Int) + 1 + 1, (k : Int) + 1 + 1 + 1, ⟨(k : Int) + 1 + 1 + 1 + 1, m_IntS (k + 5) x.fCpu.fRegs⟩, m_IntS (k + 5 + c_IntS x.fCpu.fRegs) x.fMem, m_IntS (k + 5 + c_IntS x.fCpu.fRegs + c_IntS x.fMem) x.fFds, ((k + 5 + c_IntS x.fCpu.fRegs + c_IntS x.fMem + c_IntS x.fFds : Nat) : Int), ((k + 5 + c_IntS x.fCpu.fRegs + c_IntS x.fMem + c_IntS x.fFds : Nat) : Int) + 1⟩
theorem cb_ProcE (x : MProc) : cE_Proc x ≤ 7 + 16 * z_Proc x := by
 have := cb_IntS x.fCpu.fRegs
 have := cb_IntS x.fMem
 have := cb_IntS x.fFds
 unfold cE_Proc z_Proc z_Cpu
 omega
def c_ProcS (l : List MProc) : Nat := sumG cE_Proc l
def m_ProcS (k : Nat) (l : List MProc) : List MProc := markedG cE_Proc mE_Proc l k
theorem cb_ProcS (l : List MProc) : c_ProcS l ≤ 16 * z_ProcS l := by
 have := sum_le (f := cE_Proc) (g := z_Proc) (s := 7) (fun x => by have := cb_ProcE x; omega) l
 unfold c_ProcS z_ProcS wS
 omega
theorem ml_ProcS (k : Nat) (l : List MProc) : (m_ProcS k l).length = l.length := markedG_length _ _ _ _

def cE_Open (x : MOpen) : Nat := 5
def mE_Open (k : Nat) (x : MOpen) : MOpen := ⟨(k : Int), (k : Int) + 1, (k : Int) + 1 + 1, (k : Int) + 1 + 1 + 1, (k : Int) + 1 + 1 + 1 + 1⟩

def c_OpenS (l : List MOpen) : Nat := sumG cE_Open l
def m_OpenS (k : Nat) (l : List MOpen) : List MOpen := markedG cE_Open mE_Open l k
theorem cb_OpenS (l : List MOpen) : c_OpenS l ≤ 16 * z_OpenS l := by
 have := sum_le (f := cE_Open) (g := fun _ => 0) (s := 5) (fun x => by unfold cE_Open; omega) l
 have h0 : sumW (fun _ : MOpen => 0) l = 0 := sumW_zero l
 unfold c_OpenS z_OpenS
 omega
theorem ml_OpenS (k : Nat) (l : List MOpen) : (m_OpenS k l).length = l.length := markedG_length _ _ _ _

def cE_Pipe (x : MPipe) : Nat := 1 + c_IntS x.fData
def mE_Pipe (k : Nat) (x : MPipe) : MPipe := ⟨(k : Int), m_IntS (k + 1) x.fData⟩
theorem cb_PipeE (x : MPipe) : cE_Pipe x ≤ 1 + 16 * z_Pipe x := by
 have := cb_IntS x.fData
 unfold cE_Pipe z_Pipe
 omega
def c_PipeS (l : List MPipe) : Nat := sumG cE_Pipe l
def m_PipeS (k : Nat) (l : List MPipe) : List MPipe := markedG cE_Pipe mE_Pipe l k
theorem cb_PipeS (l : List MPipe) : c_PipeS l ≤ 16 * z_PipeS l := by
 have := sum_le (f := cE_Pipe) (g := z_Pipe) (s := 1) (fun x => by have := cb_PipeE x; omega) l
 unfold c_PipeS z_PipeS wS
 omega
theorem ml_PipeS (k : Nat) (l : List MPipe) : (m_PipeS k l).length = l.length := markedG_length _ _ _ _

def cE_File (x : MFile) : Nat := 1 + c_IntS x.fData
def mE_File (k : Nat) (x : MFile) : MFile := ⟨(k : Int), m_IntS (k + 1) x.fData⟩
theorem cb_FileE (x : MFile) : cE_File x ≤ 1 + 16 * z_File x := by
 have := cb_IntS x.fData
 unfold cE_File z_File
 omega
def c_FileS (l : List MFile) : Nat := sumG cE_File l
def m_FileS (k : Nat) (l : List MFile) : List MFile := markedG cE_File mE_File l k
theorem cb_FileS (l : List MFile) : c_FileS l ≤ 16 * z_FileS l := by
 have := sum_le (f := cE_File) (g := z_File) (s := 1) (fun x => by have := cb_FileE x; omega) l
 unfold c_FileS z_FileS wS
 omega
theorem ml_FileS (k : Nat) (l : List MFile) : (m_FileS k l).length = l.length := markedG_length _ _ _ _

def c_Unix (x : MUnix) : Nat := c_InsSS x.fProgs + c_ProcS x.fProcs + c_OpenS x.fOpens + c_PipeS x.fPipes + c_FileS x.fFiles + c_IntS x.fReady + c_IntS x.fOut
def m_Unix (k : Nat) (x : MUnix) : MUnix := ⟨x.fNext, x.fTick, m_InsSS (k) x.fProgs, m_ProcS (k + c_InsSS x.fProgs) x.fProcs, m_OpenS (k + c_InsSS x.fProgs + c_ProcS x.fProcs) x.fOpens, m_PipeS (k + c_InsSS x.fProgs + c_ProcS x.fProcs + c_OpenS x.fOpens) x.fPipes, m_FileS (k + c_InsSS x.fProgs + c_ProcS x.fProcs + c_OpenS x.fOpens + c_PipeS x.fPipes) x.fFiles, m_IntS (k + c_InsSS x.fProgs + c_ProcS x.fProcs + c_OpenS x.fOpens + c_PipeS x.fPipes + c_FileS x.fFiles) x.fReady, m_IntS (k + c_InsSS x.fProgs + c_ProcS x.fProcs + c_OpenS x.fOpens + c_PipeS x.fPipes + c_FileS x.fFiles + c_IntS x.fReady) x.fOut⟩
theorem cb_Unix (x : MUnix) : c_Unix x ≤ 16 * z_Unix x := by
 have := cb_InsSS x.fProgs
 have := cb_ProcS x.fProcs
 have := cb_OpenS x.fOpens
 have := cb_PipeS x.fPipes
 have := cb_FileS x.fFiles
 have := cb_IntS x.fReady
 have := cb_IntS x.fOut
 unfold c_Unix z_Unix
 omega

theorem mk_InsS_nil (k : Nat) (w : World) (hk : k ≤ 90000000) :
  Calls Tryz.prog 151 #[.slice none 0 0, .int .i64 k] w fun e w' => e = .returned (.int .i64 (k : Int)) ∧ w = w' := by
 go_enter Tryz.func151, Tryz.ntmps151
 go_wp2_with fail
 go_loop [1, 5] (fun kv i => kv = .int .i64 (k : Int) ∧ i = .int .i64 0) (fun _ _ => 0)
 case atStart => exact ⟨rfl, rfl⟩
 case round =>
  obtain ⟨rfl, rfl⟩ := hrel
  go_wp2
  go_ret
  exact ⟨rfl, rfl⟩
set_option maxHeartbeats 4000000 in
theorem mk_InsS_some (g cap k : Nat) (L : List MIns) (bs : List Nat) (w : World) (hz : z_InsS L ≤ 3000000) (hk : k + sumG cE_Ins L ≤ 90000000) (hn : bs.Nodup) (h : OInsS w (.slice (some ⟨g, 0, none⟩) L.length cap) L bs) :
  Calls Tryz.prog 151 #[.slice (some ⟨g, 0, none⟩) L.length cap, .int .i64 k] w fun e w' => e = .returned (.int .i64 ((k + sumG cE_Ins L : Nat) : Int)) ∧ OInsS w' (.slice (some ⟨g, 0, none⟩) L.length cap) (markedG cE_Ins mE_Ins L k) bs ∧ Keep bs w w' := by
 have HS : Hid (∀ (i : Nat) (p : MIns), L[i]? = some p → z_Ins p ≤ 3000000) := hd (fun i p hp => by unfold z_Ins; omega)
 have hL : L.length ≤ 3000000 := by unfold z_InsS at hz; omega
 have HO := hd (offG_all cE_Ins L k)
 have HK := hd (fun i => offG_le cE_Ins L k i)
 clear hz
 have HA := hd (partlyG_all cE_Ins mE_Ins L k)
 obtain ⟨KE, hKE⟩ : ∃ KE : Nat, k + sumG cE_Ins L = KE := ⟨_, rfl⟩
 rw [hKE] at hk HO HK ⊢
 have hst : OInsS w (.slice (some ⟨g, 0, none⟩) L.length cap) (partlyG cE_Ins mE_Ins L k 0) bs := by rw [partlyG_zero]; exact h
 have HST := hd hst
 have H0 := hd (offG_zero cE_Ins L k)
 clear h hKE hst
 go_enter Tryz.func151, Tryz.ntmps151
 go_wp2_with fail
 go_loopw [1, 5] (fun kv iv wr => ∃ (j K : Nat), j ≤ L.length ∧ kv = .int .i64 ((K : Nat) : Int) ∧ K ≤ KE ∧ Hid (K = offG cE_Ins L k j) ∧ iv = .int .i64 j ∧ Hid (OInsS wr (.slice (some ⟨g, 0, none⟩) L.length cap) (partlyG cE_Ins mE_Ins L k j) bs) ∧ Keep bs w wr) (fun _ iv _ => L.length - (intOf iv).toNat)
 case atStart => exact ⟨0, k, Nat.zero_le _, rfl, by have h1 := HK.out 0; rw [H0.out] at h1; exact h1, hd H0.out.symm, rfl, HST, Keep.refl _ _⟩
 case round =>
  clear HST H0
  obtain ⟨j, K, hj, rfl, hKE, hKo, rfl, hrow, hkeep⟩ := hrel
  by_cases hlt : j < L.length
  ·obtain ⟨p, cs, b, hl, hP, ho⟩ := hrow.out.out (i := j) (by rw [partlyG_length cE_Ins mE_Ins L k j hj]; exact hlt)
   rw [partlyG_get cE_Ins mE_Ins L k j hlt] at hl
   have hsm := HS.out j p hl
   have HSt := hd (offG_step cE_Ins L k j p hl)
   have HP := hd (partlyG_set cE_Ins mE_Ins L k j p hl)
   rw [← hKo.out] at HSt HP
   have hKn := HK.out (j + 1)
   rw [HSt.out] at hKn
   unfold cE_Ins at hKn
   have hj0 : (0 : Int) ≤ j := by omega
   have hj1 : (j : Int) < L.length := by omega
   have hgb := out_notin hn ho
   have hgi := out_in ho
   have hbn := out_nodup hn ho
   have hsub := ho.sub
   clear hl hrow
   obtain ⟨rfl, hbe⟩ := hP
   subst hbe
   have c0 := ho.cell 0 _ rfl
   have f0 := ho.frozen (j * 4)
   have c1 := ho.cell 1 _ rfl
   have f1 := ho.frozen (j * 4 + 1)
   have c2 := ho.cell 2 _ rfl
   have f2 := ho.frozen (j * 4 + 2)
   have c3 := ho.cell 3 _ rfl
   have f3 := ho.frozen (j * 4 + 3)
   rw [Nat.add_zero] at c0
   have hks := ((((Keep.set wr g (j * 4 + 0) (.int .i64 ((K : Int))) [g] (by simp)).trans (Keep.set _ g (j * 4 + 1) (.int .i64 ((K : Int) + 1)) [g] (by simp))).trans (Keep.set _ g (j * 4 + 2) (.int .i64 ((K : Int) + 1 + 1)) [g] (by simp))).trans (Keep.set _ g (j * 4 + 3) (.int .i64 ((K : Int) + 1 + 1 + 1)) [g] (by simp)))
   have ho_n := ((((ho.set good_Ins hn 0 (by omega) (.int .i64 ((K : Int)))).set good_Ins hn 1 (by omega) (.int .i64 ((K : Int) + 1))).set good_Ins hn 2 (by omega) (.int .i64 ((K : Int) + 1 + 1))).set good_Ins hn 3 (by omega) (.int .i64 ((K : Int) + 1 + 1 + 1)))
   clear ho
   replace hkeep := hkeep.then hks (fun y hy => by simp at hy; subst hy; exact .inl hgi)
   clear hks
   have HO1 := hd ho_n
   clear ho_n
   unfold MIns.cells cI at *
   go_wp2_with fail
   clear c0 f0 c1 f1 c2 f2 c3 f3
   go_roundw
   case rel =>
    refine ⟨j + 1, K + 4, by omega, by go_num, by omega, hd ?_, by go_num, hd ?_, hkeep⟩
    ·rw [HSt.out]; unfold cE_Ins; omega
    ·rw [← HP.out]
     exact HO1.out.shut (x := mE_Ins K p) ⟨rfl, rfl⟩
   case measure => simp [intOf]; omega
  ·obtain rfl : j = L.length := by omega
   go_wp2
   go_ret
   exact ⟨ret_int (by have := HO.out; have := hKo.out; omega), by rw [← HA.out]; exact hrow.out, hkeep⟩
theorem mk_InsS (x : Int) (k : Nat) (hx : x = (k : Int)) (v : Value) (L : List MIns) (b : List Nat) (w : World) (hz : z_InsS L ≤ 3000000) (hk : k + c_InsS L ≤ 90000000) (hn : b.Nodup) (h : OInsS w v L b) :
  Calls Tryz.prog 151 #[v, .int .i64 x] w fun e w' => e = .returned (.int .i64 ((k + c_InsS L : Nat) : Int)) ∧ OInsS w' v (m_InsS k L) b ∧ Keep b w w' := by
 subst hx
 unfold c_InsS m_InsS at *
 rcases h.cases with ⟨rfl, rfl, rfl⟩ | ⟨g, c, rfl, hg, _⟩
 ·refine (mk_InsS_nil k w (by omega)).mono ?_
  rintro e w' ⟨rfl, rfl⟩
  exact ⟨by simp [sumG], h, Keep.refl _ _⟩
 ·exact mk_InsS_some g c k L b w hz hk hn h
theorem hl_InsS_nil (k : Nat) (w : World) (hk : k ≤ 90000000) :
  Calls Tryz.prog 152 #[.slice none 0 0, .int .i64 k] w fun e w' => e = .returned (.int .i64 (k : Int)) ∧ w = w' := by
 go_enter Tryz.func152, Tryz.ntmps152
 go_wp2_with fail
 go_loop [1, 5] (fun kv i => kv = .int .i64 (k : Int) ∧ i = .int .i64 0) (fun _ _ => 0)
 case atStart => exact ⟨rfl, rfl⟩
 case round =>
  obtain ⟨rfl, rfl⟩ := hrel
  go_wp2
  go_ret
  exact ⟨rfl, rfl⟩
set_option maxHeartbeats 4000000 in
theorem hl_InsS_some (g cap k : Nat) (L : List MIns) (bs : List Nat) (w : World) (hz : z_InsS L ≤ 3000000) (hk : k + sumG cE_Ins L ≤ 90000000) (h : OInsS w (.slice (some ⟨g, 0, none⟩) L.length cap) (markedG cE_Ins mE_Ins L k) bs) :
  Calls Tryz.prog 152 #[.slice (some ⟨g, 0, none⟩) L.length cap, .int .i64 k] w fun e w' => e = .returned (.int .i64 ((k + sumG cE_Ins L : Nat) : Int)) ∧ w = w' := by
 have HS : Hid (∀ (i : Nat) (p : MIns), L[i]? = some p → z_Ins p ≤ 3000000) := hd (fun i p hp => by unfold z_Ins; omega)
 have hL : L.length ≤ 3000000 := by unfold z_InsS at hz; omega
 have HO := hd (offG_all cE_Ins L k)
 have HK := hd (fun i => offG_le cE_Ins L k i)
 clear hz
 obtain ⟨KE, hKE⟩ : ∃ KE : Nat, k + sumG cE_Ins L = KE := ⟨_, rfl⟩
 rw [hKE] at hk HO HK ⊢
 have HR := hd h
 have H0 := hd (offG_zero cE_Ins L k)
 clear h hKE
 go_enter Tryz.func152, Tryz.ntmps152
 go_wp2_with fail
 go_loop [1, 5] (fun kv iv => ∃ (j K : Nat), j ≤ L.length ∧ kv = .int .i64 ((K : Nat) : Int) ∧ K ≤ KE ∧ Hid (K = offG cE_Ins L k j) ∧ iv = .int .i64 j) (fun _ iv => L.length - (intOf iv).toNat)
 case atStart => exact ⟨0, k, Nat.zero_le _, rfl, by have h1 := HK.out 0; rw [H0.out] at h1; exact h1, hd H0.out.symm, rfl⟩
 case round =>
  clear H0
  obtain ⟨j, K, hj, rfl, hKE, hKo, rfl⟩ := hrel
  by_cases hlt : j < L.length
  ·obtain ⟨p, hl⟩ : ∃ p, L[j]? = some p := ⟨L[j], by simp [hlt]⟩
   obtain ⟨p', cs, b, hl', hP, ho⟩ := HR.out.out (i := j) (by rw [markedG_length]; exact hlt)
   rw [markedG_get cE_Ins mE_Ins L k j p hl, ← hKo.out] at hl'
   simp only [Option.some.injEq] at hl'
   subst hl'
   have hsm := HS.out j p hl
   have HSt := hd (offG_step cE_Ins L k j p hl)
   rw [← hKo.out] at HSt
   have hKn := HK.out (j + 1)
   rw [HSt.out] at hKn
   unfold cE_Ins at hKn
   have hj0 : (0 : Int) ≤ j := by omega
   have hj1 : (j : Int) < L.length := by omega
   clear hl
   obtain ⟨rfl, hbe⟩ := hP
   have c0 := ho.cell 0 _ rfl
   have c1 := ho.cell 1 _ rfl
   have c2 := ho.cell 2 _ rfl
   have c3 := ho.cell 3 _ rfl
   rw [Nat.add_zero] at c0
   unfold mE_Ins cI at *
   simp only at *
   clear ho hbe
   go_wp2
   go_round
   case rel => exact ⟨j + 1, K + 4, by omega, by go_num, by omega, hd (by rw [HSt.out]; unfold cE_Ins; omega), by go_num⟩
   case measure => simp [intOf]; omega
  ·obtain rfl : j = L.length := by omega
   go_wp2
   go_ret
   exact ⟨ret_int (by have := HO.out; have := hKo.out; omega), rfl⟩
theorem hl_InsS (x : Int) (k : Nat) (hx : x = (k : Int)) (v : Value) (L : List MIns) (b : List Nat) (w : World) (hz : z_InsS L ≤ 3000000) (hk : k + c_InsS L ≤ 90000000) (h : OInsS w v (m_InsS k L) b) :
  Calls Tryz.prog 152 #[v, .int .i64 x] w fun e w' => e = .returned (.int .i64 ((k + c_InsS L : Nat) : Int)) ∧ w = w' := by
 subst hx
 unfold c_InsS m_InsS at *
 rcases h.cases with ⟨rfl, h0, rfl⟩ | ⟨g, c, rfl, hg, _⟩
 ·obtain rfl : L = [] := List.eq_nil_of_length_eq_zero (by rw [← markedG_length cE_Ins mE_Ins L k, h0]; rfl)
  refine (hl_InsS_nil k w (by omega)).mono ?_
  rintro e w' ⟨rfl, rfl⟩
  exact ⟨by simp [sumG], rfl⟩
 ·rw [markedG_length] at h ⊢
  exact hl_InsS_some g c k L b w hz hk h

theorem mk_InsSS_nil (k : Nat) (w : World) (hk : k ≤ 90000000) :
  Calls Tryz.prog 69 #[.slice none 0 0, .int .i64 k] w fun e w' => e = .returned (.int .i64 (k : Int)) ∧ w = w' := by
 go_enter Tryz.func69, Tryz.ntmps69
 go_wp2_with fail
 go_loop [1, 5] (fun kv i => kv = .int .i64 (k : Int) ∧ i = .int .i64 0) (fun _ _ => 0)
 case atStart => exact ⟨rfl, rfl⟩
 case round =>
  obtain ⟨rfl, rfl⟩ := hrel
  go_wp2
  go_ret
  exact ⟨rfl, rfl⟩
set_option maxHeartbeats 4000000 in
theorem mk_InsSS_some (g cap k : Nat) (L : List (List MIns)) (bs : List Nat) (w : World) (hz : z_InsSS L ≤ 3000000) (hk : k + sumG c_InsS L ≤ 90000000) (hn : bs.Nodup) (h : OInsSS w (.slice (some ⟨g, 0, none⟩) L.length cap) L bs) :
  Calls Tryz.prog 69 #[.slice (some ⟨g, 0, none⟩) L.length cap, .int .i64 k] w fun e w' => e = .returned (.int .i64 ((k + sumG c_InsS L : Nat) : Int)) ∧ OInsSS w' (.slice (some ⟨g, 0, none⟩) L.length cap) (markedG c_InsS m_InsS L k) bs ∧ Keep bs w w' := by
 have HS : Hid (∀ (i : Nat) (p : List MIns), L[i]? = some p → z_InsS p ≤ 3000000) := hd (fun i p hp => by have := sumW_mem z_InsS _ i p hp; unfold z_InsSS wS at hz; omega)
 have hL : L.length ≤ 3000000 := by unfold z_InsSS wS at hz; omega
 have HO := hd (offG_all c_InsS L k)
 have HK := hd (fun i => offG_le c_InsS L k i)
 clear hz
 have HA := hd (partlyG_all c_InsS m_InsS L k)
 obtain ⟨KE, hKE⟩ : ∃ KE : Nat, k + sumG c_InsS L = KE := ⟨_, rfl⟩
 rw [hKE] at hk HO HK ⊢
 have hst : OInsSS w (.slice (some ⟨g, 0, none⟩) L.length cap) (partlyG c_InsS m_InsS L k 0) bs := by rw [partlyG_zero]; exact h
 have HST := hd hst
 have H0 := hd (offG_zero c_InsS L k)
 clear h hKE hst
 go_enter Tryz.func69, Tryz.ntmps69
 go_wp2_with fail
 go_loopw [1, 5] (fun kv iv wr => ∃ (j K : Nat), j ≤ L.length ∧ kv = .int .i64 ((K : Nat) : Int) ∧ K ≤ KE ∧ Hid (K = offG c_InsS L k j) ∧ iv = .int .i64 j ∧ Hid (OInsSS wr (.slice (some ⟨g, 0, none⟩) L.length cap) (partlyG c_InsS m_InsS L k j) bs) ∧ Keep bs w wr) (fun _ iv _ => L.length - (intOf iv).toNat)
 case atStart => exact ⟨0, k, Nat.zero_le _, rfl, by have h1 := HK.out 0; rw [H0.out] at h1; exact h1, hd H0.out.symm, rfl, HST, Keep.refl _ _⟩
 case round =>
  clear HST H0
  obtain ⟨j, K, hj, rfl, hKE, hKo, rfl, hrow, hkeep⟩ := hrel
  by_cases hlt : j < L.length
  ·obtain ⟨p, cs, b, hl, hP, ho⟩ := hrow.out.out (i := j) (by rw [partlyG_length c_InsS m_InsS L k j hj]; exact hlt)
   rw [partlyG_get c_InsS m_InsS L k j hlt] at hl
   have hsm := HS.out j p hl
   have HSt := hd (offG_step c_InsS L k j p hl)
   have HP := hd (partlyG_set c_InsS m_InsS L k j p hl)
   rw [← hKo.out] at HSt HP
   have hKn := HK.out (j + 1)
   rw [HSt.out] at hKn
   have hj0 : (0 : Int) ≤ j := by omega
   have hj1 : (j : Int) < L.length := by omega
   have hgb := out_notin hn ho
   have hgi := out_in ho
   have hbn := out_nodup hn ho
   have hsub := ho.sub
   clear hl hrow
   obtain ⟨v1, rfl, h1⟩ := hP
   obtain ⟨x1, y1, rfl⟩ := gv_InsS.slice h1
   have N1 := hbn
   have g1 : g ∉ b := hgb
   have c0 := ho.cell 0 _ rfl
   rw [Nat.add_zero] at c0
   rw [Nat.mul_one] at c0
   have HO1 := hd ho
   clear ho
   have HM := hd (mk_InsS ((K : Int)) K (by go_num) _ p b _ (by omega) (by omega) N1 h1)
   clear h1
   go_wp2_with (go_at_call 151; fail)
   refine HM.out.mono ?_
   rintro e W1 ⟨rfl, h1, hk1⟩
   clear c0 HM
   have ho := HO1.out.keep (good_pe gv_InsS) hn hk1
   clear HO1
   replace hkeep := hkeep.then hk1 (fun y hy => .inl (hsub y hy))
   clear hk1
   obtain ⟨K1, hK1⟩ : ∃ K1 : Nat, K + c_InsS p = K1 := ⟨_, rfl⟩
   have HK1 := hd hK1
   have hl1 : K1 ≤ KE := by omega
   rw [hK1]
   replace hKn : K1 + 0 ≤ KE := by omega
   clear hK1
   have HO1 := hd ho
   clear ho
   have H1 := hd h1
   clear h1
   go_wp2_with fail
   go_roundw
   case rel =>
    refine ⟨j + 1, K1 + 0, by omega, by go_num, by omega, hd ?_, by go_num, hd ?_, hkeep⟩
    ·rw [HSt.out]; have := HK1.out; omega
    ·rw [← HP.out]
     exact HO1.out.shut (x := m_InsS K p) ⟨_, rfl, H1.out⟩
   case measure => simp [intOf]; omega
  ·obtain rfl : j = L.length := by omega
   go_wp2
   go_ret
   exact ⟨ret_int (by have := HO.out; have := hKo.out; omega), by rw [← HA.out]; exact hrow.out, hkeep⟩
theorem mk_InsSS (x : Int) (k : Nat) (hx : x = (k : Int)) (v : Value) (L : List (List MIns)) (b : List Nat) (w : World) (hz : z_InsSS L ≤ 3000000) (hk : k + c_InsSS L ≤ 90000000) (hn : b.Nodup) (h : OInsSS w v L b) :
  Calls Tryz.prog 69 #[v, .int .i64 x] w fun e w' => e = .returned (.int .i64 ((k + c_InsSS L : Nat) : Int)) ∧ OInsSS w' v (m_InsSS k L) b ∧ Keep b w w' := by
 subst hx
 unfold c_InsSS m_InsSS at *
 rcases h.cases with ⟨rfl, rfl, rfl⟩ | ⟨g, c, rfl, hg, _⟩
 ·refine (mk_InsSS_nil k w (by omega)).mono ?_
  rintro e w' ⟨rfl, rfl⟩
  exact ⟨by simp [sumG], h, Keep.refl _ _⟩
 ·exact mk_InsSS_some g c k L b w hz hk hn h
theorem hl_InsSS_nil (k : Nat) (w : World) (hk : k ≤ 90000000) :
  Calls Tryz.prog 81 #[.slice none 0 0, .int .i64 k] w fun e w' => e = .returned (.int .i64 (k : Int)) ∧ w = w' := by
 go_enter Tryz.func81, Tryz.ntmps81
 go_wp2_with fail
 go_loop [1, 5] (fun kv i => kv = .int .i64 (k : Int) ∧ i = .int .i64 0) (fun _ _ => 0)
 case atStart => exact ⟨rfl, rfl⟩
 case round =>
  obtain ⟨rfl, rfl⟩ := hrel
  go_wp2
  go_ret
  exact ⟨rfl, rfl⟩
set_option maxHeartbeats 4000000 in
theorem hl_InsSS_some (g cap k : Nat) (L : List (List MIns)) (bs : List Nat) (w : World) (hz : z_InsSS L ≤ 3000000) (hk : k + sumG c_InsS L ≤ 90000000) (h : OInsSS w (.slice (some ⟨g, 0, none⟩) L.length cap) (markedG c_InsS m_InsS L k) bs) :
  Calls Tryz.prog 81 #[.slice (some ⟨g, 0, none⟩) L.length cap, .int .i64 k] w fun e w' => e = .returned (.int .i64 ((k + sumG c_InsS L : Nat) : Int)) ∧ w = w' := by
 have HS : Hid (∀ (i : Nat) (p : List MIns), L[i]? = some p → z_InsS p ≤ 3000000) := hd (fun i p hp => by have := sumW_mem z_InsS _ i p hp; unfold z_InsSS wS at hz; omega)
 have hL : L.length ≤ 3000000 := by unfold z_InsSS wS at hz; omega
 have HO := hd (offG_all c_InsS L k)
 have HK := hd (fun i => offG_le c_InsS L k i)
 clear hz
 obtain ⟨KE, hKE⟩ : ∃ KE : Nat, k + sumG c_InsS L = KE := ⟨_, rfl⟩
 rw [hKE] at hk HO HK ⊢
 have HR := hd h
 have H0 := hd (offG_zero c_InsS L k)
 clear h hKE
 go_enter Tryz.func81, Tryz.ntmps81
 go_wp2_with fail
 go_loop [1, 5] (fun kv iv => ∃ (j K : Nat), j ≤ L.length ∧ kv = .int .i64 ((K : Nat) : Int) ∧ K ≤ KE ∧ Hid (K = offG c_InsS L k j) ∧ iv = .int .i64 j) (fun _ iv => L.length - (intOf iv).toNat)
 case atStart => exact ⟨0, k, Nat.zero_le _, rfl, by have h1 := HK.out 0; rw [H0.out] at h1; exact h1, hd H0.out.symm, rfl⟩
 case round =>
  clear H0
  obtain ⟨j, K, hj, rfl, hKE, hKo, rfl⟩ := hrel
  by_cases hlt : j < L.length
  ·obtain ⟨p, hl⟩ : ∃ p, L[j]? = some p := ⟨L[j], by simp [hlt]⟩
   obtain ⟨p', cs, b, hl', hP, ho⟩ := HR.out.out (i := j) (by rw [markedG_length]; exact hlt)
   rw [markedG_get c_InsS m_InsS L k j p hl, ← hKo.out] at hl'
   simp only [Option.some.injEq] at hl'
   subst hl'
   have hsm := HS.out j p hl
   have HSt := hd (offG_step c_InsS L k j p hl)
   rw [← hKo.out] at HSt
   have hKn := HK.out (j + 1)
   rw [HSt.out] at hKn
   have hj0 : (0 : Int) ≤ j := by omega
   have hj1 : (j : Int) < L.length := by omega
   clear hl
   obtain ⟨v1, rfl, h1⟩ := hP
   obtain ⟨x1, y1, rfl⟩ := gv_InsS.slice h1
   have c0 := ho.cell 0 _ rfl
   rw [Nat.add_zero] at c0
   rw [Nat.mul_one] at c0
   rw [ml_InsS] at c0 h1
   clear ho
   have HM := hd (hl_InsS ((K : Int)) K (by go_num) _ p _ w (by omega) (by omega) h1)
   clear h1
   go_wp2_with (go_at_call 152; fail)
   refine HM.out.mono ?_
   rintro e w' ⟨rfl, rfl⟩
   clear HM
   obtain ⟨K1, hK1⟩ : ∃ K1 : Nat, K + c_InsS p = K1 := ⟨_, rfl⟩
   have HK1 := hd hK1
   have hl1 : K1 ≤ KE := by omega
   simp only [hK1]
   replace hKn : K1 + 0 ≤ KE := by omega
   have hng1 : decide ((K1 : Int) < 0) = false := by simp
   clear hK1
   go_wp2
   go_round
   case rel => exact ⟨j + 1, K1 + 0, by omega, by go_num, by omega, hd (by rw [HSt.out]; have := HK1.out; omega), by go_num⟩
   case measure => simp [intOf]; omega
  ·obtain rfl : j = L.length := by omega
   go_wp2
   go_ret
   exact ⟨ret_int (by have := HO.out; have := hKo.out; omega), rfl⟩
theorem hl_InsSS (x : Int) (k : Nat) (hx : x = (k : Int)) (v : Value) (L : List (List MIns)) (b : List Nat) (w : World) (hz : z_InsSS L ≤ 3000000) (hk : k + c_InsSS L ≤ 90000000) (h : OInsSS w v (m_InsSS k L) b) :
  Calls Tryz.prog 81 #[v, .int .i64 x] w fun e w' => e = .returned (.int .i64 ((k + c_InsSS L : Nat) : Int)) ∧ w = w' := by
 subst hx
 unfold c_InsSS m_InsSS at *
 rcases h.cases with ⟨rfl, h0, rfl⟩ | ⟨g, c, rfl, hg, _⟩
 ·obtain rfl : L = [] := List.eq_nil_of_length_eq_zero (by rw [← markedG_length c_InsS m_InsS L k, h0]; rfl)
  refine (hl_InsSS_nil k w (by omega)).mono ?_
  rintro e w' ⟨rfl, rfl⟩
  exact ⟨by simp [sumG], rfl⟩
 ·rw [markedG_length] at h ⊢
  exact hl_InsSS_some g c k L b w hz hk h

set_option maxHeartbeats 400000 in
theorem mk_IntS_some (g n cap k : Nat) (xs : List Value) (w : World) (hn : n ≤ 90000000) (hk : k ≤ 90000000) (hown : w.ownsRow 0 3 1 (.slice (some ⟨g, 0, none⟩) n cap) n xs) :
  Calls Tryz.prog 71 #[.slice (some ⟨g, 0, none⟩) n cap, .int .i64 k] w fun e w' => e = .returned (.int .i64 ((k + n : Nat) : Int)) ∧ w'.ownsRow 0 3 1 (.slice (some ⟨g, 0, none⟩) n cap) n ((mkl mI k n).map cI) ∧ Keep [g] w w' := by
 go_enter Tryz.func71, Tryz.ntmps71
 go_wp2_with fail
 go_loopw [1, 5] (fun kv iv wr => ∃ (j : Nat), j ≤ n ∧ kv = .int .i64 ((k : Int) + j) ∧ iv = .int .i64 j ∧ (∃ z, wr.ownsRow 0 3 1 (.slice (some ⟨g, 0, none⟩) n cap) n z ∧ Hid (z.take j = (mkl mI k j).map cI)) ∧ Keep [g] w wr) (fun _ iv _ => n - (intOf iv).toNat)
 case atStart => exact ⟨0, Nat.zero_le _, by simp, rfl, ⟨_, hown, hd (by simp [mkl])⟩, Keep.refl _ _⟩
 case round =>
  clear hown
  obtain ⟨j, hj, rfl, rfl, ⟨z, hown, hz⟩, hgr⟩ := hrel
  by_cases hlt : j < n
  ·have hzl : z.length = n * 1 := hown.1
   have d0 := hown.cellAt j (by omega)
   rw [List.getElem?_eq_getElem (by omega)] at d0
   generalize z[j] = y0 at d0
   have f0 := hown.frozenAt j
   have hj0 : (0 : Int) ≤ j := by omega
   have hj1 : (j : Int) < n := by omega
   go_wp2_with fail
   clear d0 f0
   go_roundw
   case rel =>
    refine ⟨j + 1, by omega, by go_num, by go_num, ⟨_, (hown.stored j (.int .i64 ((k : Int) + j))).1, hd ?_⟩, hgr.trans (Keep.set _ g j _ _ (by simp))⟩
    have m0 : cI (mI (k + j)) = .int .i64 ((k : Int) + j) := by unfold cI mI; go_num
    rw [set1 z j _ (by omega), hz.out, mkl_step, List.map_append, List.map_cons, List.map_nil, m0]
   case measure => simp [intOf]; omega
  ·obtain rfl : j = n := by omega
   have hjn : decide ((j : Int) < j) = false := by simp
   go_wp2
   go_ret
   have hz' := hz.out
   rw [List.take_of_length_le (by rw [hown.1]; omega)] at hz'
   refine ⟨by go_num, ?_, hgr⟩
   rw [← hz']; exact hown
theorem mk_IntS_nil (k : Nat) (w : World) (hk : k ≤ 90000000) :
  Calls Tryz.prog 71 #[.slice none 0 0, .int .i64 k] w fun e w' => e = .returned (.int .i64 (k : Int)) ∧ w = w' := by
 go_enter Tryz.func71, Tryz.ntmps71
 go_wp2_with fail
 go_loop [1, 5] (fun kv iv => kv = .int .i64 (k : Int) ∧ iv = .int .i64 0) (fun _ _ => 0)
 case atStart => exact ⟨rfl, rfl⟩
 case round =>
  obtain ⟨rfl, rfl⟩ := hrel
  go_wp2
  go_ret
  exact ⟨rfl, rfl⟩
theorem mk_IntS (x : Int) (k : Nat) (hx : x = (k : Int)) (v : Value) (l : List Int) (b : List Nat) (w : World) (hk : k + c_IntS l ≤ 90000000) (hb : b.Nodup) (h : OIntS w v l b) :
  Calls Tryz.prog 71 #[v, .int .i64 x] w fun e w' => e = .returned (.int .i64 ((k + c_IntS l : Nat) : Int)) ∧ OIntS w' v (m_IntS k l) b ∧ Keep b w w' := by
 subst hx
 unfold c_IntS at hk ⊢
 rcases so_cases h with ⟨rfl, rfl, rfl⟩ | ⟨g, cap, rfl, rfl, hg, hown, _⟩
 ·refine (mk_IntS_nil k w (by omega)).mono ?_
  rintro e w' ⟨rfl, rfl⟩
  exact ⟨by simp, h, Keep.refl _ _⟩
 ·refine (mk_IntS_some g l.length cap k _ w (by omega) (by omega) hown).mono ?_
  rintro e w' ⟨rfl, h1, h2⟩
  refine ⟨rfl, ⟨?_, rfl⟩, h2⟩
  unfold m_IntS
  rw [mkl_length]
  exact h1
set_option maxHeartbeats 400000 in
theorem hl_IntS_some (g n cap k : Nat) (w : World) (hn : n ≤ 90000000) (hk : k ≤ 90000000) (hc0 : ∀ i x, (mkl mI k n)[i]? = some x → w.cell? ⟨g, i, none⟩ = some (cI x)) :
  Calls Tryz.prog 86 #[.slice (some ⟨g, 0, none⟩) n cap, .int .i64 k] w fun e w' => e = .returned (.int .i64 ((k + n : Nat) : Int)) ∧ w = w' := by
 have hc := hd (fun j (hj : j < n) => hc0 j _ (mkl_get mI k n j hj))
 clear hc0
 go_enter Tryz.func86, Tryz.ntmps86
 go_wp2_with fail
 go_loop [1, 5] (fun kv iv => ∃ (j : Nat), j ≤ n ∧ kv = .int .i64 ((k : Int) + j) ∧ iv = .int .i64 j) (fun _ iv => n - (intOf iv).toNat)
 case atStart => exact ⟨0, Nat.zero_le _, by simp, rfl⟩
 case round =>
  obtain ⟨j, hj, rfl, rfl⟩ := hrel
  by_cases hlt : j < n
  ·have m0 : cI (mI (k + j)) = .int .i64 ((k : Int) + j) := by unfold cI mI; go_num
   have c0 : w.cell? ⟨g, j, none⟩ = some (.int .i64 ((k : Int) + j)) := (hc.out _ hlt).trans (by rw [m0])
   clear m0
   have hj0 : (0 : Int) ≤ j := by omega
   have hj1 : (j : Int) < n := by omega
   go_wp2
   go_round
   case rel => exact ⟨j + 1, by omega, by go_num, by go_num⟩
   case measure => simp [intOf]; omega
  ·obtain rfl : j = n := by omega
   go_wp2
   go_ret
   exact ⟨by go_num, rfl⟩
theorem hl_IntS_nil (k : Nat) (w : World) (hk : k ≤ 90000000) :
  Calls Tryz.prog 86 #[.slice none 0 0, .int .i64 k] w fun e w' => e = .returned (.int .i64 (k : Int)) ∧ w = w' := by
 go_enter Tryz.func86, Tryz.ntmps86
 go_wp2_with fail
 go_loop [1, 5] (fun kv iv => kv = .int .i64 (k : Int) ∧ iv = .int .i64 0) (fun _ _ => 0)
 case atStart => exact ⟨rfl, rfl⟩
 case round =>
  obtain ⟨rfl, rfl⟩ := hrel
  go_wp2
  go_ret
  exact ⟨rfl, rfl⟩
theorem hl_IntS (x : Int) (k : Nat) (hx : x = (k : Int)) (v : Value) (l : List Int) (b : List Nat) (w : World) (hk : k + c_IntS l ≤ 90000000) (h : OIntS w v (m_IntS k l) b) :
  Calls Tryz.prog 86 #[v, .int .i64 x] w fun e w' => e = .returned (.int .i64 ((k + c_IntS l : Nat) : Int)) ∧ w = w' := by
 subst hx
 unfold c_IntS at hk ⊢
 rcases so_cases h with ⟨rfl, h0, rfl⟩ | ⟨g, cap, rfl, rfl, hg, hown, hc⟩
 ·obtain rfl : l = [] := List.eq_nil_of_length_eq_zero (by rw [← ml_IntS k l, h0]; rfl)
  refine (hl_IntS_nil k w (by omega)).mono ?_
  rintro e w' ⟨rfl, rfl⟩
  exact ⟨by simp, rfl⟩
 ·rw [ml_IntS]
  exact hl_IntS_some g l.length cap k w (by omega) (by omega) hc

theorem mk_ASlotS_nil (k : Nat) (w : World) (hk : k ≤ 90000000) :
  Calls Tryz.prog 70 #[.slice none 0 0, .int .i64 k] w fun e w' => e = .returned (.int .i64 (k : Int)) ∧ w = w' := by
 go_enter Tryz.func70, Tryz.ntmps70
 go_wp2_with fail
 go_loop [1, 5] (fun kv i => kv = .int .i64 (k : Int) ∧ i = .int .i64 0) (fun _ _ => 0)
 case atStart => exact ⟨rfl, rfl⟩
 case round =>
  obtain ⟨rfl, rfl⟩ := hrel
  go_wp2
  go_ret
  exact ⟨rfl, rfl⟩
set_option maxHeartbeats 4000000 in
theorem mk_ASlotS_some (g cap k : Nat) (L : List MASlot) (bs : List Nat) (w : World) (hz : z_ASlotS L ≤ 3000000) (hk : k + sumG cE_ASlot L ≤ 90000000) (hn : bs.Nodup) (h : OASlotS w (.slice (some ⟨g, 0, none⟩) L.length cap) L bs) :
  Calls Tryz.prog 70 #[.slice (some ⟨g, 0, none⟩) L.length cap, .int .i64 k] w fun e w' => e = .returned (.int .i64 ((k + sumG cE_ASlot L : Nat) : Int)) ∧ OASlotS w' (.slice (some ⟨g, 0, none⟩) L.length cap) (markedG cE_ASlot mE_ASlot L k) bs ∧ Keep bs w w' := by
 have HS : Hid (∀ (i : Nat) (p : MASlot), L[i]? = some p → z_ASlot p ≤ 3000000) := hd (fun i p hp => by have := sumW_mem z_ASlot _ i p hp; unfold z_ASlotS wS at hz; omega)
 have hL : L.length ≤ 3000000 := by unfold z_ASlotS wS at hz; omega
 have HO := hd (offG_all cE_ASlot L k)
 have HK := hd (fun i => offG_le cE_ASlot L k i)
 clear hz
 have HA := hd (partlyG_all cE_ASlot mE_ASlot L k)
 obtain ⟨KE, hKE⟩ : ∃ KE : Nat, k + sumG cE_ASlot L = KE := ⟨_, rfl⟩
 rw [hKE] at hk HO HK ⊢
 have hst : OASlotS w (.slice (some ⟨g, 0, none⟩) L.length cap) (partlyG cE_ASlot mE_ASlot L k 0) bs := by rw [partlyG_zero]; exact h
 have HST := hd hst
 have H0 := hd (offG_zero cE_ASlot L k)
 clear h hKE hst
 go_enter Tryz.func70, Tryz.ntmps70
 go_wp2_with fail
 go_loopw [1, 5] (fun kv iv wr => ∃ (j K : Nat), j ≤ L.length ∧ kv = .int .i64 ((K : Nat) : Int) ∧ K ≤ KE ∧ Hid (K = offG cE_ASlot L k j) ∧ iv = .int .i64 j ∧ Hid (OASlotS wr (.slice (some ⟨g, 0, none⟩) L.length cap) (partlyG cE_ASlot mE_ASlot L k j) bs) ∧ Keep bs w wr) (fun _ iv _ => L.length - (intOf iv).toNat)
 case atStart => exact ⟨0, k, Nat.zero_le _, rfl, by have h1 := HK.out 0; rw [H0.out] at h1; exact h1, hd H0.out.symm, rfl, HST, Keep.refl _ _⟩
 case round =>
  clear HST H0
  obtain ⟨j, K, hj, rfl, hKE, hKo, rfl, hrow, hkeep⟩ := hrel
  by_cases hlt : j < L.length
  ·obtain ⟨p, cs, b, hl, hP, ho⟩ := hrow.out.out (i := j) (by rw [partlyG_length cE_ASlot mE_ASlot L k j hj]; exact hlt)
   rw [partlyG_get cE_ASlot mE_ASlot L k j hlt] at hl
   have hsm := HS.out j p hl
   unfold z_ASlot at hsm
   have HSt := hd (offG_step cE_ASlot L k j p hl)
   have HP := hd (partlyG_set cE_ASlot mE_ASlot L k j p hl)
   rw [← hKo.out] at HSt HP
   have hKn := HK.out (j + 1)
   rw [HSt.out] at hKn
   unfold cE_ASlot at hKn
   have hj0 : (0 : Int) ≤ j := by omega
   have hj1 : (j : Int) < L.length := by omega
   have hgb := out_notin hn ho
   have hgi := out_in ho
   have hbn := out_nodup hn ho
   have hsub := ho.sub
   clear hl hrow
   obtain ⟨v1, v2, v3, b1, b2, b3, rfl, h1, h2, h3, hbe⟩ := hP
   obtain ⟨x1, y1, rfl⟩ := gv_IntS.slice h1
   obtain ⟨x2, y2, rfl⟩ := gv_IntS.slice h2
   obtain ⟨x3, y3, rfl⟩ := gv_IntS.slice h3
   subst hbe
   obtain ⟨N1, N1r, E1⟩ := List.nodup_append.1 hbn
   obtain ⟨N2, N3, E2⟩ := List.nodup_append.1 N1r
   have g1 : g ∉ b1 := fun h => hgb (by simp [h])
   have g2 : g ∉ b2 := fun h => hgb (by simp [h])
   have g3 : g ∉ b3 := fun h => hgb (by simp [h])
   have c0 := ho.cell 0 _ rfl
   have f0 := ho.frozen (j * 11)
   have c1 := ho.cell 1 _ rfl
   have f1 := ho.frozen (j * 11 + 1)
   have c2 := ho.cell 2 _ rfl
   have f2 := ho.frozen (j * 11 + 2)
   have c3 := ho.cell 3 _ rfl
   have f3 := ho.frozen (j * 11 + 3)
   have c4 := ho.cell 4 _ rfl
   have f4 := ho.frozen (j * 11 + 4)
   have c5 := ho.cell 5 _ rfl
   have f5 := ho.frozen (j * 11 + 5)
   have c6 := ho.cell 6 _ rfl
   have f6 := ho.frozen (j * 11 + 6)
   have c7 := ho.cell 7 _ rfl
   have f7 := ho.frozen (j * 11 + 7)
   have c8 := ho.cell 8 _ rfl
   rw [Nat.add_zero] at c0
   have ht0 : Int.tmod ((K : Int)) 3 = ((K : Int)) % 3 := Int.tmod_eq_emod_of_nonneg (by omega)
   have hks := ((((((((Keep.set wr g (j * 11 + 0) (.bool (((K : Int)) % 3 == 0)) [g] (by simp)).trans (Keep.set _ g (j * 11 + 1) (.int .i64 ((K : Int) + 1)) [g] (by simp))).trans (Keep.set _ g (j * 11 + 2) (.int .i64 ((K : Int) + 1 + 1)) [g] (by simp))).trans (Keep.set _ g (j * 11 + 3) (.int .i64 ((K : Int) + 1 + 1 + 1)) [g] (by simp))).trans (Keep.set _ g (j * 11 + 4) (.int .i64 ((K : Int) + 1 + 1 + 1 + 1)) [g] (by simp))).trans (Keep.set _ g (j * 11 + 5) (.int .i64 ((K : Int) + 1 + 1 + 1 + 1 + 1)) [g] (by simp))).trans (Keep.set _ g (j * 11 + 6) (.int .i64 ((K : Int) + 1 + 1 + 1 + 1 + 1 + 1)) [g] (by simp))).trans (Keep.set _ g (j * 11 + 7) (.int .i64 ((K : Int) + 1 + 1 + 1 + 1 + 1 + 1 + 1)) [g] (by simp)))
   have ho_n := ((((((((ho.set good_ASlot hn 0 (by omega) (.bool (((K : Int)) % 3 == 0))).set good_ASlot hn 1 (by omega) (.int .i64 ((K : Int) + 1))).set good_ASlot hn 2 (by omega) (.int .i64 ((K : Int) + 1 + 1))).set good_ASlot hn 3 (by omega) (.int .i64 ((K : Int) + 1 + 1 + 1))).set good_ASlot hn 4 (by omega) (.int .i64 ((K : Int) + 1 + 1 + 1 + 1))).set good_ASlot hn 5 (by omega) (.int .i64 ((K : Int) + 1 + 1 + 1 + 1 + 1))).set good_ASlot hn 6 (by omega) (.int .i64 ((K : Int) + 1 + 1 + 1 + 1 + 1 + 1))).set good_ASlot hn 7 (by omega) (.int .i64 ((K : Int) + 1 + 1 + 1 + 1 + 1 + 1 + 1)))
   clear ho
   replace h1 := gv_IntS.keep h1 hks (fun y hy hyg => by simp at hyg; subst hyg; exact g1 hy)
   replace h2 := gv_IntS.keep h2 hks (fun y hy hyg => by simp at hyg; subst hyg; exact g2 hy)
   replace h3 := gv_IntS.keep h3 hks (fun y hy hyg => by simp at hyg; subst hyg; exact g3 hy)
   replace hkeep := hkeep.then hks (fun y hy => by simp at hy; subst hy; exact .inl hgi)
   clear hks
   have HO1 := hd ho_n
   clear ho_n
   have HM := hd (mk_IntS ((K : Int) + 1 + 1 + 1 + 1 + 1 + 1 + 1 + 1) (K + 8) (by go_num) _ p.fRegs b1 _ (by omega) N1 h1)
   have H2 := hd h2
   have H3 := hd h3
   clear h1 h2 h3
   unfold MASlot.cells cB cI at *
   go_wp2_with (go_at_call 71; fail)
   refine HM.out.mono ?_
   rintro e W1 ⟨rfl, h1, hk1⟩
   clear c0 f0 c1 f1 c2 f2 c3 f3 c4 f4 c5 f5 c6 f6 c7 f7 c8 ht0 HM
   have ho := HO1.out.keep good_ASlot hn (hk1.mono (fun y hy => by simp [hy]))
   clear HO1
   have h2 := gv_IntS.keep H2.out hk1 (fun y hy hy1 => E1 y hy1 y (by simp [hy]) rfl)
   clear H2
   have h3 := gv_IntS.keep H3.out hk1 (fun y hy hy1 => E1 y hy1 y (by simp [hy]) rfl)
   clear H3
   replace hkeep := hkeep.then hk1 (fun y hy => .inl (hsub y (by simp [hy])))
   clear hk1
   obtain ⟨K1, hK1⟩ : ∃ K1 : Nat, (K + 8) + c_IntS p.fRegs = K1 := ⟨_, rfl⟩
   have HK1 := hd hK1
   have hl1 : K1 ≤ KE := by omega
   rw [hK1]
   replace hKn : K1 + (0 + c_IntS p.fPt + c_IntS p.fFds) ≤ KE := by omega
   clear hK1
   have c9 := ho.cell 9 _ rfl
   have HO1 := hd ho
   clear ho
   have HM := hd (mk_IntS ((K1 : Int)) K1 (by go_num) _ p.fPt b2 _ (by omega) N2 h2)
   have H1 := hd h1
   have H3 := hd h3
   clear h1 h2 h3
   go_wp2_with (go_at_call 71; fail)
   refine HM.out.mono ?_
   rintro e W2 ⟨rfl, h2, hk1⟩
   clear c9 HM
   have ho := HO1.out.keep good_ASlot hn (hk1.mono (fun y hy => by simp [hy]))
   clear HO1
   have h1 := gv_IntS.keep H1.out hk1 (fun y hy hy1 => E1 y hy y (by simp [hy1]) rfl)
   clear H1
   have h3 := gv_IntS.keep H3.out hk1 (fun y hy hy1 => E2 y hy1 y (by simp [hy]) rfl)
   clear H3
   replace hkeep := hkeep.then hk1 (fun y hy => .inl (hsub y (by simp [hy])))
   clear hk1
   obtain ⟨K2, hK2⟩ : ∃ K2 : Nat, K1 + c_IntS p.fPt = K2 := ⟨_, rfl⟩
   have HK2 := hd hK2
   have hl2 : K2 ≤ KE := by omega
   rw [hK2]
   replace hKn : K2 + (0 + c_IntS p.fFds) ≤ KE := by omega
   clear hK2
   have c10 := ho.cell 10 _ rfl
   have HO1 := hd ho
   clear ho
   have HM := hd (mk_IntS ((K2 : Int)) K2 (by go_num) _ p.fFds b3 _ (by omega) N3 h3)
   have H1 := hd h1
   have H2 := hd h2
   clear h1 h2 h3
   go_wp2_with (go_at_call 71; fail)
   refine HM.out.mono ?_
   rintro e W3 ⟨rfl, h3, hk1⟩
   clear c10 HM
   have ho := HO1.out.keep good_ASlot hn (hk1.mono (fun y hy => by simp [hy]))
   clear HO1
   have h1 := gv_IntS.keep H1.out hk1 (fun y hy hy1 => E1 y hy y (by simp [hy1]) rfl)
   clear H1
   have h2 := gv_IntS.keep H2.out hk1 (fun y hy hy1 => E2 y hy y (by simp [hy1]) rfl)
   clear H2
   replace hkeep := hkeep.then hk1 (fun y hy => .inl (hsub y (by simp [hy])))
   clear hk1
   obtain ⟨K3, hK3⟩ : ∃ K3 : Nat, K2 + c_IntS p.fFds = K3 := ⟨_, rfl⟩
   have HK3 := hd hK3
   have hl3 : K3 ≤ KE := by omega
   rw [hK3]
   replace hKn : K3 + (0) ≤ KE := by omega
   clear hK3
   have HO1 := hd ho
   clear ho
   have H1 := hd h1
   clear h1
   have H2 := hd h2
   clear h2
   have H3 := hd h3
   clear h3
   go_wp2_with fail
   go_roundw
   case rel =>
    refine ⟨j + 1, K3 + 0, by omega, by go_num, by omega, hd ?_, by go_num, hd ?_, hkeep⟩
    ·rw [HSt.out]; unfold cE_ASlot; have := HK1.out; have := HK2.out; have := HK3.out; omega
    ·rw [← HP.out]
     have HB0 : Value.bool (mB (K)) = .bool (((K : Int)) % 3 == 0) := cB_x _ _ (by omega)
     refine HO1.out.shut (x := mE_ASlot K p) ⟨.slice x1 p.fRegs.length y1, .slice x2 p.fPt.length y2, .slice x3 p.fFds.length y3, b1, b2, b3, ?_, ?_, ?_, ?_, rfl⟩
     ·unfold mE_ASlot MASlot.cells cB cI
      simp only [HK1.out, HK2.out, HK3.out, ml_IntS, HB0]
      try rfl
     ·unfold mE_ASlot
      simp only [HK1.out, HK2.out, HK3.out]
      exact H1.out
     ·unfold mE_ASlot
      simp only [HK1.out, HK2.out, HK3.out]
      exact H2.out
     ·unfold mE_ASlot
      simp only [HK1.out, HK2.out, HK3.out]
      exact H3.out
   case measure => simp [intOf]; omega
  ·obtain rfl : j = L.length := by omega
   go_wp2
   go_ret
   exact ⟨ret_int (by have := HO.out; have := hKo.out; omega), by rw [← HA.out]; exact hrow.out, hkeep⟩
theorem mk_ASlotS (x : Int) (k : Nat) (hx : x = (k : Int)) (v : Value) (L : List MASlot) (b : List Nat) (w : World) (hz : z_ASlotS L ≤ 3000000) (hk : k + c_ASlotS L ≤ 90000000) (hn : b.Nodup) (h : OASlotS w v L b) :
  Calls Tryz.prog 70 #[v, .int .i64 x] w fun e w' => e = .returned (.int .i64 ((k + c_ASlotS L : Nat) : Int)) ∧ OASlotS w' v (m_ASlotS k L) b ∧ Keep b w w' := by
 subst hx
 unfold c_ASlotS m_ASlotS at *
 rcases h.cases with ⟨rfl, rfl, rfl⟩ | ⟨g, c, rfl, hg, _⟩
 ·refine (mk_ASlotS_nil k w (by omega)).mono ?_
  rintro e w' ⟨rfl, rfl⟩
  exact ⟨by simp [sumG], h, Keep.refl _ _⟩
 ·exact mk_ASlotS_some g c k L b w hz hk hn h
set_option maxHeartbeats 400000 in
theorem mk_BoolS_some (g n cap k : Nat) (xs : List Value) (w : World) (hn : n ≤ 90000000) (hk : k ≤ 90000000) (hown : w.ownsRow 0 4 1 (.slice (some ⟨g, 0, none⟩) n cap) n xs) :
  Calls Tryz.prog 72 #[.slice (some ⟨g, 0, none⟩) n cap, .int .i64 k] w fun e w' => e = .returned (.int .i64 ((k + n : Nat) : Int)) ∧ w'.ownsRow 0 4 1 (.slice (some ⟨g, 0, none⟩) n cap) n ((mkl mB k n).map cB) ∧ Keep [g] w w' := by
 go_enter Tryz.func72, Tryz.ntmps72
 go_wp2_with fail
 go_loopw [1, 5] (fun kv iv wr => ∃ (j : Nat), j ≤ n ∧ kv = .int .i64 ((k : Int) + j) ∧ iv = .int .i64 j ∧ (∃ z, wr.ownsRow 0 4 1 (.slice (some ⟨g, 0, none⟩) n cap) n z ∧ Hid (z.take j = (mkl mB k j).map cB)) ∧ Keep [g] w wr) (fun _ iv _ => n - (intOf iv).toNat)
 case atStart => exact ⟨0, Nat.zero_le _, by simp, rfl, ⟨_, hown, hd (by simp [mkl])⟩, Keep.refl _ _⟩
 case round =>
  clear hown
  obtain ⟨j, hj, rfl, rfl, ⟨z, hown, hz⟩, hgr⟩ := hrel
  by_cases hlt : j < n
  ·have hzl : z.length = n * 1 := hown.1
   have d0 := hown.cellAt j (by omega)
   rw [List.getElem?_eq_getElem (by omega)] at d0
   generalize z[j] = y0 at d0
   have f0 := hown.frozenAt j
   have hj0 : (0 : Int) ≤ j := by omega
   have hj1 : (j : Int) < n := by omega
   have ht : Int.tmod ((k : Int) + j) 3 = ((k : Int) + j) % 3 := Int.tmod_eq_emod_of_nonneg (by omega)
   go_wp2_with fail
   clear d0 f0
   go_roundw
   case rel =>
    refine ⟨j + 1, by omega, by go_num, by go_num, ⟨_, (hown.stored j (.bool (((k : Int) + j) % 3 == 0))).1, hd ?_⟩, hgr.trans (Keep.set _ g j _ _ (by simp))⟩
    have m0 : cB (mB (k + j)) = .bool (((k : Int) + j) % 3 == 0) := cB_mB k j
    rw [set1 z j _ (by omega), hz.out, mkl_step, List.map_append, List.map_cons, List.map_nil, m0]
   case measure => simp [intOf]; omega
  ·obtain rfl : j = n := by omega
   have hjn : decide ((j : Int) < j) = false := by simp
   go_wp2
   go_ret
   have hz' := hz.out
   rw [List.take_of_length_le (by rw [hown.1]; omega)] at hz'
   refine ⟨by go_num, ?_, hgr⟩
   rw [← hz']; exact hown
theorem mk_BoolS_nil (k : Nat) (w : World) (hk : k ≤ 90000000) :
  Calls Tryz.prog 72 #[.slice none 0 0, .int .i64 k] w fun e w' => e = .returned (.int .i64 (k : Int)) ∧ w = w' := by
 go_enter Tryz.func72, Tryz.ntmps72
 go_wp2_with fail
 go_loop [1, 5] (fun kv iv => kv = .int .i64 (k : Int) ∧ iv = .int .i64 0) (fun _ _ => 0)
 case atStart => exact ⟨rfl, rfl⟩
 case round =>
  obtain ⟨rfl, rfl⟩ := hrel
  go_wp2
  go_ret
  exact ⟨rfl, rfl⟩
theorem mk_BoolS (x : Int) (k : Nat) (hx : x = (k : Int)) (v : Value) (l : List Bool) (b : List Nat) (w : World) (hk : k + c_BoolS l ≤ 90000000) (hb : b.Nodup) (h : OBoolS w v l b) :
  Calls Tryz.prog 72 #[v, .int .i64 x] w fun e w' => e = .returned (.int .i64 ((k + c_BoolS l : Nat) : Int)) ∧ OBoolS w' v (m_BoolS k l) b ∧ Keep b w w' := by
 subst hx
 unfold c_BoolS at hk ⊢
 rcases so_cases h with ⟨rfl, rfl, rfl⟩ | ⟨g, cap, rfl, rfl, hg, hown, _⟩
 ·refine (mk_BoolS_nil k w (by omega)).mono ?_
  rintro e w' ⟨rfl, rfl⟩
  exact ⟨by simp, h, Keep.refl _ _⟩
 ·refine (mk_BoolS_some g l.length cap k _ w (by omega) (by omega) hown).mono ?_
  rintro e w' ⟨rfl, h1, h2⟩
  refine ⟨rfl, ⟨?_, rfl⟩, h2⟩
  unfold m_BoolS
  rw [mkl_length]
  exact h1
theorem mk_AOpenS_nil (k : Nat) (w : World) (hk : k ≤ 90000000) :
  Calls Tryz.prog 73 #[.slice none 0 0, .int .i64 k] w fun e w' => e = .returned (.int .i64 (k : Int)) ∧ w = w' := by
 go_enter Tryz.func73, Tryz.ntmps73
 go_wp2_with fail
 go_loop [1, 5] (fun kv i => kv = .int .i64 (k : Int) ∧ i = .int .i64 0) (fun _ _ => 0)
 case atStart => exact ⟨rfl, rfl⟩
 case round =>
  obtain ⟨rfl, rfl⟩ := hrel
  go_wp2
  go_ret
  exact ⟨rfl, rfl⟩
set_option maxHeartbeats 4000000 in
theorem mk_AOpenS_some (g cap k : Nat) (L : List MAOpen) (bs : List Nat) (w : World) (hz : z_AOpenS L ≤ 3000000) (hk : k + sumG cE_AOpen L ≤ 90000000) (hn : bs.Nodup) (h : OAOpenS w (.slice (some ⟨g, 0, none⟩) L.length cap) L bs) :
  Calls Tryz.prog 73 #[.slice (some ⟨g, 0, none⟩) L.length cap, .int .i64 k] w fun e w' => e = .returned (.int .i64 ((k + sumG cE_AOpen L : Nat) : Int)) ∧ OAOpenS w' (.slice (some ⟨g, 0, none⟩) L.length cap) (markedG cE_AOpen mE_AOpen L k) bs ∧ Keep bs w w' := by
 have HS : Hid (∀ (i : Nat) (p : MAOpen), L[i]? = some p → z_AOpen p ≤ 3000000) := hd (fun i p hp => by unfold z_AOpen; omega)
 have hL : L.length ≤ 3000000 := by unfold z_AOpenS at hz; omega
 have HO := hd (offG_all cE_AOpen L k)
 have HK := hd (fun i => offG_le cE_AOpen L k i)
 clear hz
 have HA := hd (partlyG_all cE_AOpen mE_AOpen L k)
 obtain ⟨KE, hKE⟩ : ∃ KE : Nat, k + sumG cE_AOpen L = KE := ⟨_, rfl⟩
 rw [hKE] at hk HO HK ⊢
 have hst : OAOpenS w (.slice (some ⟨g, 0, none⟩) L.length cap) (partlyG cE_AOpen mE_AOpen L k 0) bs := by rw [partlyG_zero]; exact h
 have HST := hd hst
 have H0 := hd (offG_zero cE_AOpen L k)
 clear h hKE hst
 go_enter Tryz.func73, Tryz.ntmps73
 go_wp2_with fail
 go_loopw [1, 5] (fun kv iv wr => ∃ (j K : Nat), j ≤ L.length ∧ kv = .int .i64 ((K : Nat) : Int) ∧ K ≤ KE ∧ Hid (K = offG cE_AOpen L k j) ∧ iv = .int .i64 j ∧ Hid (OAOpenS wr (.slice (some ⟨g, 0, none⟩) L.length cap) (partlyG cE_AOpen mE_AOpen L k j) bs) ∧ Keep bs w wr) (fun _ iv _ => L.length - (intOf iv).toNat)
 case atStart => exact ⟨0, k, Nat.zero_le _, rfl, by have h1 := HK.out 0; rw [H0.out] at h1; exact h1, hd H0.out.symm, rfl, HST, Keep.refl _ _⟩
 case round =>
  clear HST H0
  obtain ⟨j, K, hj, rfl, hKE, hKo, rfl, hrow, hkeep⟩ := hrel
  by_cases hlt : j < L.length
  ·obtain ⟨p, cs, b, hl, hP, ho⟩ := hrow.out.out (i := j) (by rw [partlyG_length cE_AOpen mE_AOpen L k j hj]; exact hlt)
   rw [partlyG_get cE_AOpen mE_AOpen L k j hlt] at hl
   have hsm := HS.out j p hl
   have HSt := hd (offG_step cE_AOpen L k j p hl)
   have HP := hd (partlyG_set cE_AOpen mE_AOpen L k j p hl)
   rw [← hKo.out] at HSt HP
   have hKn := HK.out (j + 1)
   rw [HSt.out] at hKn
   unfold cE_AOpen at hKn
   have hj0 : (0 : Int) ≤ j := by omega
   have hj1 : (j : Int) < L.length := by omega
   have hgb := out_notin hn ho
   have hgi := out_in ho
   have hbn := out_nodup hn ho
   have hsub := ho.sub
   clear hl hrow
   obtain ⟨rfl, hbe⟩ := hP
   subst hbe
   have c0 := ho.cell 0 _ rfl
   have f0 := ho.frozen (j * 5)
   have c1 := ho.cell 1 _ rfl
   have f1 := ho.frozen (j * 5 + 1)
   have c2 := ho.cell 2 _ rfl
   have f2 := ho.frozen (j * 5 + 2)
   have c3 := ho.cell 3 _ rfl
   have f3 := ho.frozen (j * 5 + 3)
   have c4 := ho.cell 4 _ rfl
   have f4 := ho.frozen (j * 5 + 4)
   rw [Nat.add_zero] at c0
   have ht0 : Int.tmod ((K : Int)) 3 = ((K : Int)) % 3 := Int.tmod_eq_emod_of_nonneg (by omega)
   have hks := (((((Keep.set wr g (j * 5 + 0) (.bool (((K : Int)) % 3 == 0)) [g] (by simp)).trans (Keep.set _ g (j * 5 + 1) (.int .i64 ((K : Int) + 1)) [g] (by simp))).trans (Keep.set _ g (j * 5 + 2) (.int .i64 ((K : Int) + 1 + 1)) [g] (by simp))).trans (Keep.set _ g (j * 5 + 3) (.int .i64 ((K : Int) + 1 + 1 + 1)) [g] (by simp))).trans (Keep.set _ g (j * 5 + 4) (.int .i64 ((K : Int) + 1 + 1 + 1 + 1)) [g] (by simp)))
   have ho_n := (((((ho.set good_AOpen hn 0 (by omega) (.bool (((K : Int)) % 3 == 0))).set good_AOpen hn 1 (by omega) (.int .i64 ((K : Int) + 1))).set good_AOpen hn 2 (by omega) (.int .i64 ((K : Int) + 1 + 1))).set good_AOpen hn 3 (by omega) (.int .i64 ((K : Int) + 1 + 1 + 1))).set good_AOpen hn 4 (by omega) (.int .i64 ((K : Int) + 1 + 1 + 1 + 1)))
   clear ho
   replace hkeep := hkeep.then hks (fun y hy => by simp at hy; subst hy; exact .inl hgi)
   clear hks
   have HO1 := hd ho_n
   clear ho_n
   unfold MAOpen.cells cB cI at *
   go_wp2_with fail
   clear c0 f0 c1 f1 c2 f2 c3 f3 c4 f4 ht0
   go_roundw
   case rel =>
    refine ⟨j + 1, K + 5, by omega, by go_num, by omega, hd ?_, by go_num, hd ?_, hkeep⟩
    ·rw [HSt.out]; unfold cE_AOpen; omega
    ·rw [← HP.out]
     have HB0 : Value.bool (mB (K)) = .bool (((K : Int)) % 3 == 0) := cB_x _ _ (by omega)
     exact HO1.out.shut (x := mE_AOpen K p) ⟨by unfold mE_AOpen MAOpen.cells cB cI; simp only [HB0]; rfl, rfl⟩
   case measure => simp [intOf]; omega
  ·obtain rfl : j = L.length := by omega
   go_wp2
   go_ret
   exact ⟨ret_int (by have := HO.out; have := hKo.out; omega), by rw [← HA.out]; exact hrow.out, hkeep⟩
theorem mk_AOpenS (x : Int) (k : Nat) (hx : x = (k : Int)) (v : Value) (L : List MAOpen) (b : List Nat) (w : World) (hz : z_AOpenS L ≤ 3000000) (hk : k + c_AOpenS L ≤ 90000000) (hn : b.Nodup) (h : OAOpenS w v L b) :
  Calls Tryz.prog 73 #[v, .int .i64 x] w fun e w' => e = .returned (.int .i64 ((k + c_AOpenS L : Nat) : Int)) ∧ OAOpenS w' v (m_AOpenS k L) b ∧ Keep b w w' := by
 subst hx
 unfold c_AOpenS m_AOpenS at *
 rcases h.cases with ⟨rfl, rfl, rfl⟩ | ⟨g, c, rfl, hg, _⟩
 ·refine (mk_AOpenS_nil k w (by omega)).mono ?_
  rintro e w' ⟨rfl, rfl⟩
  exact ⟨by simp [sumG], h, Keep.refl _ _⟩
 ·exact mk_AOpenS_some g c k L b w hz hk hn h
set_option maxHeartbeats 4000000 in
theorem mkL_ARing (x : Int) (k : Nat) (hx : x = (k : Int)) (p : MARing) (x1 : Option Addr) (y1 : Nat) (b1 : List Nat) (w : World) (hz : z_ARing p ≤ 3000000) (hk : k + c_ARing p ≤ 90000000) (hn : b1.Nodup) (h1 : OIntS w (.slice x1 p.fBuf.length y1) p.fBuf b1) :
  Calls Tryz.prog 76 #[.agg #[.bool p.fUsed, .slice x1 p.fBuf.length y1, .int .i64 p.fHead, .int .i64 p.fLen], .int .i64 x] w fun e w' => e = .returned (.int .i64 ((k + c_ARing p : Nat) : Int)) ∧ OIntS w' (.slice x1 p.fBuf.length y1) (m_ARing k p).fBuf b1 ∧ Keep b1 w w' := by
 subst hx
 have g1 : w.heap.size ∉ b1 := fun h => by have := gv_IntS.lt h1 _ h; omega
 have hB := One.new w [.bool p.fUsed, .slice x1 p.fBuf.length y1, .int .i64 p.fHead, .int .i64 p.fLen] 46
 have hk0 : Keep b1 w (w.alloc (.cells #[.bool p.fUsed, .slice x1 p.fBuf.length y1, .int .i64 p.fHead, .int .i64 p.fLen] 46)) := Keep.alloc _ _ _
 replace h1 := gv_IntS.keep h1 (Keep.alloc w (.cells #[.bool p.fUsed, .slice x1 p.fBuf.length y1, .int .i64 p.fHead, .int .i64 p.fLen] 46) []) (by simp)
 obtain ⟨W0, hW⟩ : ∃ W0, w.alloc (.cells #[.bool p.fUsed, .slice x1 p.fBuf.length y1, .int .i64 p.fHead, .int .i64 p.fLen] 46) = W0 := ⟨_, rfl⟩
 replace hB : One W0 w.heap.size [.bool p.fUsed, .slice x1 p.fBuf.length y1, .int .i64 p.fHead, .int .i64 p.fLen] := by rw [← hW]; exact hB
 rw [hW] at hk0 h1
 replace hW := hd hW
 have N1 := hn
 unfold z_ARing at hz
 unfold c_ARing at hk ⊢
 clear hn
 go_enter Tryz.func76, Tryz.ntmps76
 go_wp2_with (go_at_call 71; fail)
 rw [hW.out]
 clear hW
 refine (mk_IntS _ k rfl _ p.fBuf b1 W0 (by omega) N1 h1).mono ?_
 rintro e W1 ⟨rfl, h1', hk1⟩
 replace h1 := h1'
 clear h1'
 replace hB := hB.keep hk1 g1
 replace hk0 := hk0.then hk1 (fun y hy => .inl hy)
 clear hk1
 obtain ⟨K1, hK1⟩ : ∃ K1 : Nat, k + c_IntS p.fBuf = K1 := ⟨_, rfl⟩
 have HK1 := hd hK1
 have hl1 : K1 ≤ 90000000 := by omega
 rw [hK1]
 replace hk : K1 + (0) ≤ 90000000 := by omega
 clear hK1
 go_wp2
 go_ret
 refine ⟨ret_int (by have := HK1.out; omega), ?_, hk0⟩
 ·unfold m_ARing
  simp only [HK1.out]
  exact h1
theorem mk_ARingS_nil (k : Nat) (w : World) (hk : k ≤ 90000000) :
  Calls Tryz.prog 74 #[.slice none 0 0, .int .i64 k] w fun e w' => e = .returned (.int .i64 (k : Int)) ∧ w = w' := by
 go_enter Tryz.func74, Tryz.ntmps74
 go_wp2_with fail
 go_loop [1, 5] (fun kv i => kv = .int .i64 (k : Int) ∧ i = .int .i64 0) (fun _ _ => 0)
 case atStart => exact ⟨rfl, rfl⟩
 case round =>
  obtain ⟨rfl, rfl⟩ := hrel
  go_wp2
  go_ret
  exact ⟨rfl, rfl⟩
set_option maxHeartbeats 4000000 in
theorem mk_ARingS_some (g cap k : Nat) (L : List MARing) (bs : List Nat) (w : World) (hz : z_ARingS L ≤ 3000000) (hk : k + sumG cE_ARing L ≤ 90000000) (hn : bs.Nodup) (h : OARingS w (.slice (some ⟨g, 0, none⟩) L.length cap) L bs) :
  Calls Tryz.prog 74 #[.slice (some ⟨g, 0, none⟩) L.length cap, .int .i64 k] w fun e w' => e = .returned (.int .i64 ((k + sumG cE_ARing L : Nat) : Int)) ∧ OARingS w' (.slice (some ⟨g, 0, none⟩) L.length cap) (markedG cE_ARing mE_ARing L k) bs ∧ Keep bs w w' := by
 have HS : Hid (∀ (i : Nat) (p : MARing), L[i]? = some p → z_ARing p ≤ 3000000) := hd (fun i p hp => by have := sumW_mem z_ARing _ i p hp; unfold z_ARingS wS at hz; omega)
 have hL : L.length ≤ 3000000 := by unfold z_ARingS wS at hz; omega
 have HO := hd (offG_all cE_ARing L k)
 have HK := hd (fun i => offG_le cE_ARing L k i)
 clear hz
 have HA := hd (partlyG_all cE_ARing mE_ARing L k)
 obtain ⟨KE, hKE⟩ : ∃ KE : Nat, k + sumG cE_ARing L = KE := ⟨_, rfl⟩
 rw [hKE] at hk HO HK ⊢
 have hst : OARingS w (.slice (some ⟨g, 0, none⟩) L.length cap) (partlyG cE_ARing mE_ARing L k 0) bs := by rw [partlyG_zero]; exact h
 have HST := hd hst
 have H0 := hd (offG_zero cE_ARing L k)
 clear h hKE hst
 go_enter Tryz.func74, Tryz.ntmps74
 go_wp2_with fail
 go_loopw [1, 5] (fun kv iv wr => ∃ (j K : Nat), j ≤ L.length ∧ kv = .int .i64 ((K : Nat) : Int) ∧ K ≤ KE ∧ Hid (K = offG cE_ARing L k j) ∧ iv = .int .i64 j ∧ Hid (OARingS wr (.slice (some ⟨g, 0, none⟩) L.length cap) (partlyG cE_ARing mE_ARing L k j) bs) ∧ Keep bs w wr) (fun _ iv _ => L.length - (intOf iv).toNat)
 case atStart => exact ⟨0, k, Nat.zero_le _, rfl, by have h1 := HK.out 0; rw [H0.out] at h1; exact h1, hd H0.out.symm, rfl, HST, Keep.refl _ _⟩
 case round =>
  clear HST H0
  obtain ⟨j, K, hj, rfl, hKE, hKo, rfl, hrow, hkeep⟩ := hrel
  by_cases hlt : j < L.length
  ·obtain ⟨p, cs, b, hl, hP, ho⟩ := hrow.out.out (i := j) (by rw [partlyG_length cE_ARing mE_ARing L k j hj]; exact hlt)
   rw [partlyG_get cE_ARing mE_ARing L k j hlt] at hl
   have hsm := HS.out j p hl
   unfold z_ARing at hsm
   have HSt := hd (offG_step cE_ARing L k j p hl)
   have HP := hd (partlyG_set cE_ARing mE_ARing L k j p hl)
   rw [← hKo.out] at HSt HP
   have hKn := HK.out (j + 1)
   rw [HSt.out] at hKn
   unfold cE_ARing at hKn
   have hj0 : (0 : Int) ≤ j := by omega
   have hj1 : (j : Int) < L.length := by omega
   have hgb := out_notin hn ho
   have hgi := out_in ho
   have hbn := out_nodup hn ho
   have hsub := ho.sub
   clear hl hrow
   obtain ⟨v1, b1, rfl, h1, hbe⟩ := hP
   obtain ⟨x1, y1, rfl⟩ := gv_IntS.slice h1
   rw [hbe] at ho hgb hbn hsub
   clear hbe
   have N1 := hbn
   have g1 : g ∉ b1 := hgb
   have c0 := ho.cell 0 _ rfl
   have f0 := ho.frozen (j * 4)
   have c1 := ho.cell 1 _ rfl
   rw [Nat.add_zero] at c0
   have ht0 : Int.tmod ((K : Int)) 3 = ((K : Int)) % 3 := Int.tmod_eq_emod_of_nonneg (by omega)
   have hks := (Keep.set wr g (j * 4 + 0) (.bool (((K : Int)) % 3 == 0)) [g] (by simp))
   have ho_n := (ho.set good_ARing hn 0 (by omega) (.bool (((K : Int)) % 3 == 0)))
   clear ho
   replace h1 := gv_IntS.keep h1 hks (fun y hy hyg => by simp at hyg; subst hyg; exact g1 hy)
   replace hkeep := hkeep.then hks (fun y hy => by simp at hy; subst hy; exact .inl hgi)
   clear hks
   have HO1 := hd ho_n
   clear ho_n
   have HM := hd (mk_IntS ((K : Int) + 1) (K + 1) (by go_num) _ p.fBuf b1 _ (by omega) N1 h1)
   clear h1
   unfold MARing.cells cB cI at *
   go_wp2_with (go_at_call 71; fail)
   refine HM.out.mono ?_
   rintro e W1 ⟨rfl, h1, hk1⟩
   clear c0 f0 c1 ht0 HM
   have ho := HO1.out.keep good_ARing hn hk1
   clear HO1
   replace hkeep := hkeep.then hk1 (fun y hy => .inl (hsub y hy))
   clear hk1
   obtain ⟨K1, hK1⟩ : ∃ K1 : Nat, (K + 1) + c_IntS p.fBuf = K1 := ⟨_, rfl⟩
   have HK1 := hd hK1
   have hl1 : K1 ≤ KE := by omega
   rw [hK1]
   replace hKn : K1 + (2) ≤ KE := by omega
   clear hK1
   have c2 := ho.cell 2 _ rfl
   have f2 := ho.frozen (j * 4 + 2)
   have c3 := ho.cell 3 _ rfl
   have f3 := ho.frozen (j * 4 + 3)
   have hks := ((Keep.set W1 g (j * 4 + 2) (.int .i64 ((K1 : Int))) [g] (by simp)).trans (Keep.set _ g (j * 4 + 3) (.int .i64 ((K1 : Int) + 1)) [g] (by simp)))
   have ho_n := ((ho.set good_ARing hn 2 (by omega) (.int .i64 ((K1 : Int)))).set good_ARing hn 3 (by omega) (.int .i64 ((K1 : Int) + 1)))
   clear ho
   replace h1 := gv_IntS.keep h1 hks (fun y hy hyg => by simp at hyg; subst hyg; exact g1 hy)
   replace hkeep := hkeep.then hks (fun y hy => by simp at hy; subst hy; exact .inl hgi)
   clear hks
   have HO1 := hd ho_n
   clear ho_n
   have H1 := hd h1
   clear h1
   go_wp2_with fail
   clear c2 f2 c3 f3
   go_roundw
   case rel =>
    refine ⟨j + 1, K1 + 2, by omega, by go_num, by omega, hd ?_, by go_num, hd ?_, hkeep⟩
    ·rw [HSt.out]; unfold cE_ARing; have := HK1.out; omega
    ·rw [← HP.out]
     have HB0 : Value.bool (mB (K)) = .bool (((K : Int)) % 3 == 0) := cB_x _ _ (by omega)
     refine HO1.out.shut (x := mE_ARing K p) ⟨.slice x1 p.fBuf.length y1, b1, ?_, ?_, rfl⟩
     ·unfold mE_ARing MARing.cells cB cI
      simp only [HK1.out, ml_IntS, HB0]
      try rfl
     ·unfold mE_ARing
      simp only [HK1.out]
      exact H1.out
   case measure => simp [intOf]; omega
  ·obtain rfl : j = L.length := by omega
   go_wp2
   go_ret
   exact ⟨ret_int (by have := HO.out; have := hKo.out; omega), by rw [← HA.out]; exact hrow.out, hkeep⟩
theorem mk_ARingS (x : Int) (k : Nat) (hx : x = (k : Int)) (v : Value) (L : List MARing) (b : List Nat) (w : World) (hz : z_ARingS L ≤ 3000000) (hk : k + c_ARingS L ≤ 90000000) (hn : b.Nodup) (h : OARingS w v L b) :
  Calls Tryz.prog 74 #[v, .int .i64 x] w fun e w' => e = .returned (.int .i64 ((k + c_ARingS L : Nat) : Int)) ∧ OARingS w' v (m_ARingS k L) b ∧ Keep b w w' := by
 subst hx
 unfold c_ARingS m_ARingS at *
 rcases h.cases with ⟨rfl, rfl, rfl⟩ | ⟨g, c, rfl, hg, _⟩
 ·refine (mk_ARingS_nil k w (by omega)).mono ?_
  rintro e w' ⟨rfl, rfl⟩
  exact ⟨by simp [sumG], h, Keep.refl _ _⟩
 ·exact mk_ARingS_some g c k L b w hz hk hn h
theorem mk_AFileS_nil (k : Nat) (w : World) (hk : k ≤ 90000000) :
  Calls Tryz.prog 75 #[.slice none 0 0, .int .i64 k] w fun e w' => e = .returned (.int .i64 (k : Int)) ∧ w = w' := by
 go_enter Tryz.func75, Tryz.ntmps75
 go_wp2_with fail
 go_loop [1, 5] (fun kv i => kv = .int .i64 (k : Int) ∧ i = .int .i64 0) (fun _ _ => 0)
 case atStart => exact ⟨rfl, rfl⟩
 case round =>
  obtain ⟨rfl, rfl⟩ := hrel
  go_wp2
  go_ret
  exact ⟨rfl, rfl⟩
set_option maxHeartbeats 4000000 in
theorem mk_AFileS_some (g cap k : Nat) (L : List MAFile) (bs : List Nat) (w : World) (hz : z_AFileS L ≤ 3000000) (hk : k + sumG cE_AFile L ≤ 90000000) (hn : bs.Nodup) (h : OAFileS w (.slice (some ⟨g, 0, none⟩) L.length cap) L bs) :
  Calls Tryz.prog 75 #[.slice (some ⟨g, 0, none⟩) L.length cap, .int .i64 k] w fun e w' => e = .returned (.int .i64 ((k + sumG cE_AFile L : Nat) : Int)) ∧ OAFileS w' (.slice (some ⟨g, 0, none⟩) L.length cap) (markedG cE_AFile mE_AFile L k) bs ∧ Keep bs w w' := by
 have HS : Hid (∀ (i : Nat) (p : MAFile), L[i]? = some p → z_AFile p ≤ 3000000) := hd (fun i p hp => by have := sumW_mem z_AFile _ i p hp; unfold z_AFileS wS at hz; omega)
 have hL : L.length ≤ 3000000 := by unfold z_AFileS wS at hz; omega
 have HO := hd (offG_all cE_AFile L k)
 have HK := hd (fun i => offG_le cE_AFile L k i)
 clear hz
 have HA := hd (partlyG_all cE_AFile mE_AFile L k)
 obtain ⟨KE, hKE⟩ : ∃ KE : Nat, k + sumG cE_AFile L = KE := ⟨_, rfl⟩
 rw [hKE] at hk HO HK ⊢
 have hst : OAFileS w (.slice (some ⟨g, 0, none⟩) L.length cap) (partlyG cE_AFile mE_AFile L k 0) bs := by rw [partlyG_zero]; exact h
 have HST := hd hst
 have H0 := hd (offG_zero cE_AFile L k)
 clear h hKE hst
 go_enter Tryz.func75, Tryz.ntmps75
 go_wp2_with fail
 go_loopw [1, 5] (fun kv iv wr => ∃ (j K : Nat), j ≤ L.length ∧ kv = .int .i64 ((K : Nat) : Int) ∧ K ≤ KE ∧ Hid (K = offG cE_AFile L k j) ∧ iv = .int .i64 j ∧ Hid (OAFileS wr (.slice (some ⟨g, 0, none⟩) L.length cap) (partlyG cE_AFile mE_AFile L k j) bs) ∧ Keep bs w wr) (fun _ iv _ => L.length - (intOf iv).toNat)
 case atStart => exact ⟨0, k, Nat.zero_le _, rfl, by have h1 := HK.out 0; rw [H0.out] at h1; exact h1, hd H0.out.symm, rfl, HST, Keep.refl _ _⟩
 case round =>
  clear HST H0
  obtain ⟨j, K, hj, rfl, hKE, hKo, rfl, hrow, hkeep⟩ := hrel
  by_cases hlt : j < L.length
  ·obtain ⟨p, cs, b, hl, hP, ho⟩ := hrow.out.out (i := j) (by rw [partlyG_length cE_AFile mE_AFile L k j hj]; exact hlt)
   rw [partlyG_get cE_AFile mE_AFile L k j hlt] at hl
   have hsm := HS.out j p hl
   unfold z_AFile at hsm
   have HSt := hd (offG_step cE_AFile L k j p hl)
   have HP := hd (partlyG_set cE_AFile mE_AFile L k j p hl)
   rw [← hKo.out] at HSt HP
   have hKn := HK.out (j + 1)
   rw [HSt.out] at hKn
   unfold cE_AFile at hKn
   have hj0 : (0 : Int) ≤ j := by omega
   have hj1 : (j : Int) < L.length := by omega
   have hgb := out_notin hn ho
   have hgi := out_in ho
   have hbn := out_nodup hn ho
   have hsub := ho.sub
   clear hl hrow
   obtain ⟨v1, b1, rfl, h1, hbe⟩ := hP
   obtain ⟨x1, y1, rfl⟩ := gv_IntS.slice h1
   rw [hbe] at ho hgb hbn hsub
   clear hbe
   have N1 := hbn
   have g1 : g ∉ b1 := hgb
   have c0 := ho.cell 0 _ rfl
   have f0 := ho.frozen (j * 2)
   have c1 := ho.cell 1 _ rfl
   rw [Nat.add_zero] at c0
   have ht0 : Int.tmod ((K : Int)) 3 = ((K : Int)) % 3 := Int.tmod_eq_emod_of_nonneg (by omega)
   have hks := (Keep.set wr g (j * 2 + 0) (.bool (((K : Int)) % 3 == 0)) [g] (by simp))
   have ho_n := (ho.set good_AFile hn 0 (by omega) (.bool (((K : Int)) % 3 == 0)))
   clear ho
   replace h1 := gv_IntS.keep h1 hks (fun y hy hyg => by simp at hyg; subst hyg; exact g1 hy)
   replace hkeep := hkeep.then hks (fun y hy => by simp at hy; subst hy; exact .inl hgi)
   clear hks
   have HO1 := hd ho_n
   clear ho_n
   have HM := hd (mk_IntS ((K : Int) + 1) (K + 1) (by go_num) _ p.fData b1 _ (by omega) N1 h1)
   clear h1
   unfold MAFile.cells cB at *
   go_wp2_with (go_at_call 71; fail)
   refine HM.out.mono ?_
   rintro e W1 ⟨rfl, h1, hk1⟩
   clear c0 f0 c1 ht0 HM
   have ho := HO1.out.keep good_AFile hn hk1
   clear HO1
   replace hkeep := hkeep.then hk1 (fun y hy => .inl (hsub y hy))
   clear hk1
   obtain ⟨K1, hK1⟩ : ∃ K1 : Nat, (K + 1) + c_IntS p.fData = K1 := ⟨_, rfl⟩
   have HK1 := hd hK1
   have hl1 : K1 ≤ KE := by omega
   rw [hK1]
   replace hKn : K1 + (0) ≤ KE := by omega
   clear hK1
   have HO1 := hd ho
   clear ho
   have H1 := hd h1
   clear h1
   go_wp2_with fail
   go_roundw
   case rel =>
    refine ⟨j + 1, K1 + 0, by omega, by go_num, by omega, hd ?_, by go_num, hd ?_, hkeep⟩
    ·rw [HSt.out]; unfold cE_AFile; have := HK1.out; omega
    ·rw [← HP.out]
     have HB0 : Value.bool (mB (K)) = .bool (((K : Int)) % 3 == 0) := cB_x _ _ (by omega)
     refine HO1.out.shut (x := mE_AFile K p) ⟨.slice x1 p.fData.length y1, b1, ?_, ?_, rfl⟩
     ·unfold mE_AFile MAFile.cells cB
      simp only [HK1.out, ml_IntS, HB0]
      try rfl
     ·unfold mE_AFile
      simp only [HK1.out]
      exact H1.out
   case measure => simp [intOf]; omega
  ·obtain rfl : j = L.length := by omega
   go_wp2
   go_ret
   exact ⟨ret_int (by have := HO.out; have := hKo.out; omega), by rw [← HA.out]; exact hrow.out, hkeep⟩
theorem mk_AFileS (x : Int) (k : Nat) (hx : x = (k : Int)) (v : Value) (L : List MAFile) (b : List Nat) (w : World) (hz : z_AFileS L ≤ 3000000) (hk : k + c_AFileS L ≤ 90000000) (hn : b.Nodup) (h : OAFileS w v L b) :
  Calls Tryz.prog 75 #[v, .int .i64 x] w fun e w' => e = .returned (.int .i64 ((k + c_AFileS L : Nat) : Int)) ∧ OAFileS w' v (m_AFileS k L) b ∧ Keep b w w' := by
 subst hx
 unfold c_AFileS m_AFileS at *
 rcases h.cases with ⟨rfl, rfl, rfl⟩ | ⟨g, c, rfl, hg, _⟩
 ·refine (mk_AFileS_nil k w (by omega)).mono ?_
  rintro e w' ⟨rfl, rfl⟩
  exact ⟨by simp [sumG], h, Keep.refl _ _⟩
 ·exact mk_AFileS_some g c k L b w hz hk hn h
set_option maxHeartbeats 4000000 in
theorem mkL_Arrays (x : Int) (k : Nat) (hx : x = (k : Int)) (p : MArrays) (x1 : Option Addr) (y1 : Nat) (b1 : List Nat) (x2 : Option Addr) (y2 : Nat) (b2 : List Nat) (x3 : Option Addr) (y3 : Nat) (b3 : List Nat) (x4 : Option Addr) (y4 : Nat) (b4 : List Nat) (x5 : Option Addr) (y5 : Nat) (b5 : List Nat) (x6 : Option Addr) (y6 : Nat) (b6 : List Nat) (x7 : Option Addr) (y7 : Nat) (b7 : List Nat) (x8 : Option Addr) (y8 : Nat) (b8 : List Nat) (x9 : Option Addr) (y9 : Nat) (b9 : List Nat) (w : World) (hz : z_Arrays p ≤ 3000000) (hk : k + c_Arrays p ≤ 90000000) (hn : (b1 ++ (b2 ++ (b3 ++ (b4 ++ (b5 ++ (b6 ++ (b7 ++ (b8 ++ b9)))))))).Nodup) (h1 : OInsSS w (.slice x1 p.fProgs.length y1) p.fProgs b1) (h2 : OASlotS w (.slice x2 p.fSlots.length y2) p.fSlots b2) (h3 : OIntS w (.slice x3 p.fRam.length y3) p.fRam b3) (h4 : OBoolS w (.slice x4 p.fMap.length y4) p.fMap b4) (h5 : OAOpenS w (.slice x5 p.fOpens.length y5) p.fOpens b5) (h6 : OARingS w (.slice x6 p.fPipes.length y6) p.fPipes b6) (h7 : OAFileS w (.slice x7 p.fFiles.length y7) p.fFiles b7) (h8 : OIntS w (.slice x8 p.fReady.fBuf.length y8) p.fReady.fBuf b8) (h9 : OIntS w (.slice x9 p.fOut.length y9) p.fOut b9) :
  Calls Tryz.prog 12 #[.agg #[.int .i64 p.fNext, .int .i64 p.fTick, .slice x1 p.fProgs.length y1, .slice x2 p.fSlots.length y2, .slice x3 p.fRam.length y3, .slice x4 p.fMap.length y4, .slice x5 p.fOpens.length y5, .slice x6 p.fPipes.length y6, .slice x7 p.fFiles.length y7, .bool p.fReady.fUsed, .slice x8 p.fReady.fBuf.length y8, .int .i64 p.fReady.fHead, .int .i64 p.fReady.fLen, .slice x9 p.fOut.length y9], .int .i64 x] w fun e w' => e = .returned (.int .i64 ((k + c_Arrays p : Nat) : Int)) ∧ OInsSS w' (.slice x1 p.fProgs.length y1) (m_Arrays k p).fProgs b1 ∧ OASlotS w' (.slice x2 p.fSlots.length y2) (m_Arrays k p).fSlots b2 ∧ OIntS w' (.slice x3 p.fRam.length y3) (m_Arrays k p).fRam b3 ∧ OBoolS w' (.slice x4 p.fMap.length y4) (m_Arrays k p).fMap b4 ∧ OAOpenS w' (.slice x5 p.fOpens.length y5) (m_Arrays k p).fOpens b5 ∧ OARingS w' (.slice x6 p.fPipes.length y6) (m_Arrays k p).fPipes b6 ∧ OAFileS w' (.slice x7 p.fFiles.length y7) (m_Arrays k p).fFiles b7 ∧ OIntS w' (.slice x8 p.fReady.fBuf.length y8) (m_Arrays k p).fReady.fBuf b8 ∧ OIntS w' (.slice x9 p.fOut.length y9) (m_Arrays k p).fOut b9 ∧ Keep (b1 ++ (b2 ++ (b3 ++ (b4 ++ (b5 ++ (b6 ++ (b7 ++ (b8 ++ b9)))))))) w w' := by
 subst hx
 have g1 : w.heap.size ∉ b1 := fun h => by have := gv_InsSS.lt h1 _ h; omega
 have g2 : w.heap.size ∉ b2 := fun h => by have := gv_ASlotS.lt h2 _ h; omega
 have g3 : w.heap.size ∉ b3 := fun h => by have := gv_IntS.lt h3 _ h; omega
 have g4 : w.heap.size ∉ b4 := fun h => by have := gv_BoolS.lt h4 _ h; omega
 have g5 : w.heap.size ∉ b5 := fun h => by have := gv_AOpenS.lt h5 _ h; omega
 have g6 : w.heap.size ∉ b6 := fun h => by have := gv_ARingS.lt h6 _ h; omega
 have g7 : w.heap.size ∉ b7 := fun h => by have := gv_AFileS.lt h7 _ h; omega
 have g8 : w.heap.size ∉ b8 := fun h => by have := gv_IntS.lt h8 _ h; omega
 have g9 : w.heap.size ∉ b9 := fun h => by have := gv_IntS.lt h9 _ h; omega
 have hB := One.new w [.int .i64 p.fNext, .int .i64 p.fTick, .slice x1 p.fProgs.length y1, .slice x2 p.fSlots.length y2, .slice x3 p.fRam.length y3, .slice x4 p.fMap.length y4, .slice x5 p.fOpens.length y5, .slice x6 p.fPipes.length y6, .slice x7 p.fFiles.length y7, .bool p.fReady.fUsed, .slice x8 p.fReady.fBuf.length y8, .int .i64 p.fReady.fHead, .int .i64 p.fReady.fLen, .slice x9 p.fOut.length y9] 48
 have hk0 : Keep (b1 ++ (b2 ++ (b3 ++ (b4 ++ (b5 ++ (b6 ++ (b7 ++ (b8 ++ b9)))))))) w (w.alloc (.cells #[.int .i64 p.fNext, .int .i64 p.fTick, .slice x1 p.fProgs.length y1, .slice x2 p.fSlots.length y2, .slice x3 p.fRam.length y3, .slice x4 p.fMap.length y4, .slice x5 p.fOpens.length y5, .slice x6 p.fPipes.length y6, .slice x7 p.fFiles.length y7, .bool p.fReady.fUsed, .slice x8 p.fReady.fBuf.length y8, .int .i64 p.fReady.fHead, .int .i64 p.fReady.fLen, .slice x9 p.fOut.length y9] 48)) := Keep.alloc _ _ _
 replace h1 := gv_InsSS.keep h1 (Keep.alloc w (.cells #[.int .i64 p.fNext, .int .i64 p.fTick, .slice x1 p.fProgs.length y1, .slice x2 p.fSlots.length y2, .slice x3 p.fRam.length y3, .slice x4 p.fMap.length y4, .slice x5 p.fOpens.length y5, .slice x6 p.fPipes.length y6, .slice x7 p.fFiles.length y7, .bool p.fReady.fUsed, .slice x8 p.fReady.fBuf.length y8, .int .i64 p.fReady.fHead, .int .i64 p.fReady.fLen, .slice x9 p.fOut.length y9] 48) []) (by simp)
 replace h2 := gv_ASlotS.keep h2 (Keep.alloc w (.cells #[.int .i64 p.fNext, .int .i64 p.fTick, .slice x1 p.fProgs.length y1, .slice x2 p.fSlots.length y2, .slice x3 p.fRam.length y3, .slice x4 p.fMap.length y4, .slice x5 p.fOpens.length y5, .slice x6 p.fPipes.length y6, .slice x7 p.fFiles.length y7, .bool p.fReady.fUsed, .slice x8 p.fReady.fBuf.length y8, .int .i64 p.fReady.fHead, .int .i64 p.fReady.fLen, .slice x9 p.fOut.length y9] 48) []) (by simp)
 replace h3 := gv_IntS.keep h3 (Keep.alloc w (.cells #[.int .i64 p.fNext, .int .i64 p.fTick, .slice x1 p.fProgs.length y1, .slice x2 p.fSlots.length y2, .slice x3 p.fRam.length y3, .slice x4 p.fMap.length y4, .slice x5 p.fOpens.length y5, .slice x6 p.fPipes.length y6, .slice x7 p.fFiles.length y7, .bool p.fReady.fUsed, .slice x8 p.fReady.fBuf.length y8, .int .i64 p.fReady.fHead, .int .i64 p.fReady.fLen, .slice x9 p.fOut.length y9] 48) []) (by simp)
 replace h4 := gv_BoolS.keep h4 (Keep.alloc w (.cells #[.int .i64 p.fNext, .int .i64 p.fTick, .slice x1 p.fProgs.length y1, .slice x2 p.fSlots.length y2, .slice x3 p.fRam.length y3, .slice x4 p.fMap.length y4, .slice x5 p.fOpens.length y5, .slice x6 p.fPipes.length y6, .slice x7 p.fFiles.length y7, .bool p.fReady.fUsed, .slice x8 p.fReady.fBuf.length y8, .int .i64 p.fReady.fHead, .int .i64 p.fReady.fLen, .slice x9 p.fOut.length y9] 48) []) (by simp)
 replace h5 := gv_AOpenS.keep h5 (Keep.alloc w (.cells #[.int .i64 p.fNext, .int .i64 p.fTick, .slice x1 p.fProgs.length y1, .slice x2 p.fSlots.length y2, .slice x3 p.fRam.length y3, .slice x4 p.fMap.length y4, .slice x5 p.fOpens.length y5, .slice x6 p.fPipes.length y6, .slice x7 p.fFiles.length y7, .bool p.fReady.fUsed, .slice x8 p.fReady.fBuf.length y8, .int .i64 p.fReady.fHead, .int .i64 p.fReady.fLen, .slice x9 p.fOut.length y9] 48) []) (by simp)
 replace h6 := gv_ARingS.keep h6 (Keep.alloc w (.cells #[.int .i64 p.fNext, .int .i64 p.fTick, .slice x1 p.fProgs.length y1, .slice x2 p.fSlots.length y2, .slice x3 p.fRam.length y3, .slice x4 p.fMap.length y4, .slice x5 p.fOpens.length y5, .slice x6 p.fPipes.length y6, .slice x7 p.fFiles.length y7, .bool p.fReady.fUsed, .slice x8 p.fReady.fBuf.length y8, .int .i64 p.fReady.fHead, .int .i64 p.fReady.fLen, .slice x9 p.fOut.length y9] 48) []) (by simp)
 replace h7 := gv_AFileS.keep h7 (Keep.alloc w (.cells #[.int .i64 p.fNext, .int .i64 p.fTick, .slice x1 p.fProgs.length y1, .slice x2 p.fSlots.length y2, .slice x3 p.fRam.length y3, .slice x4 p.fMap.length y4, .slice x5 p.fOpens.length y5, .slice x6 p.fPipes.length y6, .slice x7 p.fFiles.length y7, .bool p.fReady.fUsed, .slice x8 p.fReady.fBuf.length y8, .int .i64 p.fReady.fHead, .int .i64 p.fReady.fLen, .slice x9 p.fOut.length y9] 48) []) (by simp)
 replace h8 := gv_IntS.keep h8 (Keep.alloc w (.cells #[.int .i64 p.fNext, .int .i64 p.fTick, .slice x1 p.fProgs.length y1, .slice x2 p.fSlots.length y2, .slice x3 p.fRam.length y3, .slice x4 p.fMap.length y4, .slice x5 p.fOpens.length y5, .slice x6 p.fPipes.length y6, .slice x7 p.fFiles.length y7, .bool p.fReady.fUsed, .slice x8 p.fReady.fBuf.length y8, .int .i64 p.fReady.fHead, .int .i64 p.fReady.fLen, .slice x9 p.fOut.length y9] 48) []) (by simp)
 replace h9 := gv_IntS.keep h9 (Keep.alloc w (.cells #[.int .i64 p.fNext, .int .i64 p.fTick, .slice x1 p.fProgs.length y1, .slice x2 p.fSlots.length y2, .slice x3 p.fRam.length y3, .slice x4 p.fMap.length y4, .slice x5 p.fOpens.length y5, .slice x6 p.fPipes.length y6, .slice x7 p.fFiles.length y7, .bool p.fReady.fUsed, .slice x8 p.fReady.fBuf.length y8, .int .i64 p.fReady.fHead, .int .i64 p.fReady.fLen, .slice x9 p.fOut.length y9] 48) []) (by simp)
 obtain ⟨W0, hW⟩ : ∃ W0, w.alloc (.cells #[.int .i64 p.fNext, .int .i64 p.fTick, .slice x1 p.fProgs.length y1, .slice x2 p.fSlots.length y2, .slice x3 p.fRam.length y3, .slice x4 p.fMap.length y4, .slice x5 p.fOpens.length y5, .slice x6 p.fPipes.length y6, .slice x7 p.fFiles.length y7, .bool p.fReady.fUsed, .slice x8 p.fReady.fBuf.length y8, .int .i64 p.fReady.fHead, .int .i64 p.fReady.fLen, .slice x9 p.fOut.length y9] 48) = W0 := ⟨_, rfl⟩
 replace hB : One W0 w.heap.size [.int .i64 p.fNext, .int .i64 p.fTick, .slice x1 p.fProgs.length y1, .slice x2 p.fSlots.length y2, .slice x3 p.fRam.length y3, .slice x4 p.fMap.length y4, .slice x5 p.fOpens.length y5, .slice x6 p.fPipes.length y6, .slice x7 p.fFiles.length y7, .bool p.fReady.fUsed, .slice x8 p.fReady.fBuf.length y8, .int .i64 p.fReady.fHead, .int .i64 p.fReady.fLen, .slice x9 p.fOut.length y9] := by rw [← hW]; exact hB
 rw [hW] at hk0 h1 h2 h3 h4 h5 h6 h7 h8 h9
 replace hW := hd hW
 obtain ⟨N1, N1r, E1⟩ := List.nodup_append.1 hn
 obtain ⟨N2, N2r, E2⟩ := List.nodup_append.1 N1r
 obtain ⟨N3, N3r, E3⟩ := List.nodup_append.1 N2r
 obtain ⟨N4, N4r, E4⟩ := List.nodup_append.1 N3r
 obtain ⟨N5, N5r, E5⟩ := List.nodup_append.1 N4r
 obtain ⟨N6, N6r, E6⟩ := List.nodup_append.1 N5r
 obtain ⟨N7, N7r, E7⟩ := List.nodup_append.1 N6r
 obtain ⟨N8, N9, E8⟩ := List.nodup_append.1 N7r
 unfold z_Arrays at hz
 unfold c_Arrays at hk ⊢
 clear hn
 go_enter Tryz.func12, Tryz.ntmps12
 go_wp2_with (go_at_call 69; fail)
 rw [hW.out]
 clear hW
 refine (mk_InsSS _ k rfl _ p.fProgs b1 W0 (by omega) (by omega) N1 h1).mono ?_
 rintro e W1 ⟨rfl, h1', hk1⟩
 replace h2 := gv_ASlotS.keep h2 hk1 (fun y hy hy1 => E1 y hy1 y (by simp [hy]) rfl)
 replace h3 := gv_IntS.keep h3 hk1 (fun y hy hy1 => E1 y hy1 y (by simp [hy]) rfl)
 replace h4 := gv_BoolS.keep h4 hk1 (fun y hy hy1 => E1 y hy1 y (by simp [hy]) rfl)
 replace h5 := gv_AOpenS.keep h5 hk1 (fun y hy hy1 => E1 y hy1 y (by simp [hy]) rfl)
 replace h6 := gv_ARingS.keep h6 hk1 (fun y hy hy1 => E1 y hy1 y (by simp [hy]) rfl)
 replace h7 := gv_AFileS.keep h7 hk1 (fun y hy hy1 => E1 y hy1 y (by simp [hy]) rfl)
 replace h8 := gv_IntS.keep h8 hk1 (fun y hy hy1 => E1 y hy1 y (by simp [hy]) rfl)
 replace h9 := gv_IntS.keep h9 hk1 (fun y hy hy1 => E1 y hy1 y (by simp [hy]) rfl)
 replace h1 := h1'
 clear h1'
 replace hB := hB.keep hk1 g1
 replace hk0 := hk0.then hk1 (fun y hy => .inl (by simp only [List.mem_append] at *; simp [hy]))
 clear hk1
 obtain ⟨K1, hK1⟩ : ∃ K1 : Nat, k + c_InsSS p.fProgs = K1 := ⟨_, rfl⟩
 have HK1 := hd hK1
 have hl1 : K1 ≤ 90000000 := by omega
 rw [hK1]
 replace hk : K1 + (c_ASlotS p.fSlots + c_IntS p.fRam + c_BoolS p.fMap + c_AOpenS p.fOpens + c_ARingS p.fPipes + c_AFileS p.fFiles + c_ARing p.fReady + c_IntS p.fOut) ≤ 90000000 := by omega
 clear hK1
 have a3_ := hB.a 3 _ rfl
 go_wp2_with (go_at_call 70; fail)
 clear a3_
 refine (mk_ASlotS _ K1 rfl _ p.fSlots b2 W1 (by omega) (by omega) N2 h2).mono ?_
 rintro e W2 ⟨rfl, h2', hk1⟩
 replace h1 := gv_InsSS.keep h1 hk1 (fun y hy hy1 => E1 y hy y (by simp [hy1]) rfl)
 replace h3 := gv_IntS.keep h3 hk1 (fun y hy hy1 => E2 y hy1 y (by simp [hy]) rfl)
 replace h4 := gv_BoolS.keep h4 hk1 (fun y hy hy1 => E2 y hy1 y (by simp [hy]) rfl)
 replace h5 := gv_AOpenS.keep h5 hk1 (fun y hy hy1 => E2 y hy1 y (by simp [hy]) rfl)
 replace h6 := gv_ARingS.keep h6 hk1 (fun y hy hy1 => E2 y hy1 y (by simp [hy]) rfl)
 replace h7 := gv_AFileS.keep h7 hk1 (fun y hy hy1 => E2 y hy1 y (by simp [hy]) rfl)
 replace h8 := gv_IntS.keep h8 hk1 (fun y hy hy1 => E2 y hy1 y (by simp [hy]) rfl)
 replace h9 := gv_IntS.keep h9 hk1 (fun y hy hy1 => E2 y hy1 y (by simp [hy]) rfl)
 replace h2 := h2'
 clear h2'
 replace hB := hB.keep hk1 g2
 replace hk0 := hk0.then hk1 (fun y hy => .inl (by simp only [List.mem_append] at *; simp [hy]))
 clear hk1
 obtain ⟨K2, hK2⟩ : ∃ K2 : Nat, K1 + c_ASlotS p.fSlots = K2 := ⟨_, rfl⟩
 have HK2 := hd hK2
 have hl2 : K2 ≤ 90000000 := by omega
 rw [hK2]
 replace hk : K2 + (c_IntS p.fRam + c_BoolS p.fMap + c_AOpenS p.fOpens + c_ARingS p.fPipes + c_AFileS p.fFiles + c_ARing p.fReady + c_IntS p.fOut) ≤ 90000000 := by omega
 clear hK2
 have a4_ := hB.a 4 _ rfl
 go_wp2_with (go_at_call 71; fail)
 clear a4_
 refine (mk_IntS _ K2 rfl _ p.fRam b3 W2 (by omega) N3 h3).mono ?_
 rintro e W3 ⟨rfl, h3', hk1⟩
 replace h1 := gv_InsSS.keep h1 hk1 (fun y hy hy1 => E1 y hy y (by simp [hy1]) rfl)
 replace h2 := gv_ASlotS.keep h2 hk1 (fun y hy hy1 => E2 y hy y (by simp [hy1]) rfl)
 replace h4 := gv_BoolS.keep h4 hk1 (fun y hy hy1 => E3 y hy1 y (by simp [hy]) rfl)
 replace h5 := gv_AOpenS.keep h5 hk1 (fun y hy hy1 => E3 y hy1 y (by simp [hy]) rfl)
 replace h6 := gv_ARingS.keep h6 hk1 (fun y hy hy1 => E3 y hy1 y (by simp [hy]) rfl)
 replace h7 := gv_AFileS.keep h7 hk1 (fun y hy hy1 => E3 y hy1 y (by simp [hy]) rfl)
 replace h8 := gv_IntS.keep h8 hk1 (fun y hy hy1 => E3 y hy1 y (by simp [hy]) rfl)
 replace h9 := gv_IntS.keep h9 hk1 (fun y hy hy1 => E3 y hy1 y (by simp [hy]) rfl)
 replace h3 := h3'
 clear h3'
 replace hB := hB.keep hk1 g3
 replace hk0 := hk0.then hk1 (fun y hy => .inl (by simp only [List.mem_append] at *; simp [hy]))
 clear hk1
 obtain ⟨K3, hK3⟩ : ∃ K3 : Nat, K2 + c_IntS p.fRam = K3 := ⟨_, rfl⟩
 have HK3 := hd hK3
 have hl3 : K3 ≤ 90000000 := by omega
 rw [hK3]
 replace hk : K3 + (c_BoolS p.fMap + c_AOpenS p.fOpens + c_ARingS p.fPipes + c_AFileS p.fFiles + c_ARing p.fReady + c_IntS p.fOut) ≤ 90000000 := by omega
 clear hK3
 have a5_ := hB.a 5 _ rfl
 go_wp2_with (go_at_call 72; fail)
 clear a5_
 refine (mk_BoolS _ K3 rfl _ p.fMap b4 W3 (by omega) N4 h4).mono ?_
 rintro e W4 ⟨rfl, h4', hk1⟩
 replace h1 := gv_InsSS.keep h1 hk1 (fun y hy hy1 => E1 y hy y (by simp [hy1]) rfl)
 replace h2 := gv_ASlotS.keep h2 hk1 (fun y hy hy1 => E2 y hy y (by simp [hy1]) rfl)
 replace h3 := gv_IntS.keep h3 hk1 (fun y hy hy1 => E3 y hy y (by simp [hy1]) rfl)
 replace h5 := gv_AOpenS.keep h5 hk1 (fun y hy hy1 => E4 y hy1 y (by simp [hy]) rfl)
 replace h6 := gv_ARingS.keep h6 hk1 (fun y hy hy1 => E4 y hy1 y (by simp [hy]) rfl)
 replace h7 := gv_AFileS.keep h7 hk1 (fun y hy hy1 => E4 y hy1 y (by simp [hy]) rfl)
 replace h8 := gv_IntS.keep h8 hk1 (fun y hy hy1 => E4 y hy1 y (by simp [hy]) rfl)
 replace h9 := gv_IntS.keep h9 hk1 (fun y hy hy1 => E4 y hy1 y (by simp [hy]) rfl)
 replace h4 := h4'
 clear h4'
 replace hB := hB.keep hk1 g4
 replace hk0 := hk0.then hk1 (fun y hy => .inl (by simp only [List.mem_append] at *; simp [hy]))
 clear hk1
 obtain ⟨K4, hK4⟩ : ∃ K4 : Nat, K3 + c_BoolS p.fMap = K4 := ⟨_, rfl⟩
 have HK4 := hd hK4
 have hl4 : K4 ≤ 90000000 := by omega
 rw [hK4]
 replace hk : K4 + (c_AOpenS p.fOpens + c_ARingS p.fPipes + c_AFileS p.fFiles + c_ARing p.fReady + c_IntS p.fOut) ≤ 90000000 := by omega
 clear hK4
 have a6_ := hB.a 6 _ rfl
 go_wp2_with (go_at_call 73; fail)
 clear a6_
 refine (mk_AOpenS _ K4 rfl _ p.fOpens b5 W4 (by omega) (by omega) N5 h5).mono ?_
 rintro e W5 ⟨rfl, h5', hk1⟩
 replace h1 := gv_InsSS.keep h1 hk1 (fun y hy hy1 => E1 y hy y (by simp [hy1]) rfl)
 replace h2 := gv_ASlotS.keep h2 hk1 (fun y hy hy1 => E2 y hy y (by simp [hy1]) rfl)
 replace h3 := gv_IntS.keep h3 hk1 (fun y hy hy1 => E3 y hy y (by simp [hy1]) rfl)
 replace h4 := gv_BoolS.keep h4 hk1 (fun y hy hy1 => E4 y hy y (by simp [hy1]) rfl)
 replace h6 := gv_ARingS.keep h6 hk1 (fun y hy hy1 => E5 y hy1 y (by simp [hy]) rfl)
 replace h7 := gv_AFileS.keep h7 hk1 (fun y hy hy1 => E5 y hy1 y (by simp [hy]) rfl)
 replace h8 := gv_IntS.keep h8 hk1 (fun y hy hy1 => E5 y hy1 y (by simp [hy]) rfl)
 replace h9 := gv_IntS.keep h9 hk1 (fun y hy hy1 => E5 y hy1 y (by simp [hy]) rfl)
 replace h5 := h5'
 clear h5'
 replace hB := hB.keep hk1 g5
 replace hk0 := hk0.then hk1 (fun y hy => .inl (by simp only [List.mem_append] at *; simp [hy]))
 clear hk1
 obtain ⟨K5, hK5⟩ : ∃ K5 : Nat, K4 + c_AOpenS p.fOpens = K5 := ⟨_, rfl⟩
 have HK5 := hd hK5
 have hl5 : K5 ≤ 90000000 := by omega
 rw [hK5]
 replace hk : K5 + (c_ARingS p.fPipes + c_AFileS p.fFiles + c_ARing p.fReady + c_IntS p.fOut) ≤ 90000000 := by omega
 clear hK5
 have a7_ := hB.a 7 _ rfl
 go_wp2_with (go_at_call 74; fail)
 clear a7_
 refine (mk_ARingS _ K5 rfl _ p.fPipes b6 W5 (by omega) (by omega) N6 h6).mono ?_
 rintro e W6 ⟨rfl, h6', hk1⟩
 replace h1 := gv_InsSS.keep h1 hk1 (fun y hy hy1 => E1 y hy y (by simp [hy1]) rfl)
 replace h2 := gv_ASlotS.keep h2 hk1 (fun y hy hy1 => E2 y hy y (by simp [hy1]) rfl)
 replace h3 := gv_IntS.keep h3 hk1 (fun y hy hy1 => E3 y hy y (by simp [hy1]) rfl)
 replace h4 := gv_BoolS.keep h4 hk1 (fun y hy hy1 => E4 y hy y (by simp [hy1]) rfl)
 replace h5 := gv_AOpenS.keep h5 hk1 (fun y hy hy1 => E5 y hy y (by simp [hy1]) rfl)
 replace h7 := gv_AFileS.keep h7 hk1 (fun y hy hy1 => E6 y hy1 y (by simp [hy]) rfl)
 replace h8 := gv_IntS.keep h8 hk1 (fun y hy hy1 => E6 y hy1 y (by simp [hy]) rfl)
 replace h9 := gv_IntS.keep h9 hk1 (fun y hy hy1 => E6 y hy1 y (by simp [hy]) rfl)
 replace h6 := h6'
 clear h6'
 replace hB := hB.keep hk1 g6
 replace hk0 := hk0.then hk1 (fun y hy => .inl (by simp only [List.mem_append] at *; simp [hy]))
 clear hk1
 obtain ⟨K6, hK6⟩ : ∃ K6 : Nat, K5 + c_ARingS p.fPipes = K6 := ⟨_, rfl⟩
 have HK6 := hd hK6
 have hl6 : K6 ≤ 90000000 := by omega
 rw [hK6]
 replace hk : K6 + (c_AFileS p.fFiles + c_ARing p.fReady + c_IntS p.fOut) ≤ 90000000 := by omega
 clear hK6
 have a8_ := hB.a 8 _ rfl
 go_wp2_with (go_at_call 75; fail)
 clear a8_
 refine (mk_AFileS _ K6 rfl _ p.fFiles b7 W6 (by omega) (by omega) N7 h7).mono ?_
 rintro e W7 ⟨rfl, h7', hk1⟩
 replace h1 := gv_InsSS.keep h1 hk1 (fun y hy hy1 => E1 y hy y (by simp [hy1]) rfl)
 replace h2 := gv_ASlotS.keep h2 hk1 (fun y hy hy1 => E2 y hy y (by simp [hy1]) rfl)
 replace h3 := gv_IntS.keep h3 hk1 (fun y hy hy1 => E3 y hy y (by simp [hy1]) rfl)
 replace h4 := gv_BoolS.keep h4 hk1 (fun y hy hy1 => E4 y hy y (by simp [hy1]) rfl)
 replace h5 := gv_AOpenS.keep h5 hk1 (fun y hy hy1 => E5 y hy y (by simp [hy1]) rfl)
 replace h6 := gv_ARingS.keep h6 hk1 (fun y hy hy1 => E6 y hy y (by simp [hy1]) rfl)
 replace h8 := gv_IntS.keep h8 hk1 (fun y hy hy1 => E7 y hy1 y (by simp [hy]) rfl)
 replace h9 := gv_IntS.keep h9 hk1 (fun y hy hy1 => E7 y hy1 y (by simp [hy]) rfl)
 replace h7 := h7'
 clear h7'
 replace hB := hB.keep hk1 g7
 replace hk0 := hk0.then hk1 (fun y hy => .inl (by simp only [List.mem_append] at *; simp [hy]))
 clear hk1
 obtain ⟨K7, hK7⟩ : ∃ K7 : Nat, K6 + c_AFileS p.fFiles = K7 := ⟨_, rfl⟩
 have HK7 := hd hK7
 have hl7 : K7 ≤ 90000000 := by omega
 rw [hK7]
 replace hk : K7 + (c_ARing p.fReady + c_IntS p.fOut) ≤ 90000000 := by omega
 clear hK7
 have a9_ := hB.a 9 _ rfl
 have a10_ := hB.a 10 _ rfl
 have a11_ := hB.a 11 _ rfl
 have a12_ := hB.a 12 _ rfl
 go_wp2_with (go_at_call 76; fail)
 clear a9_ a10_ a11_ a12_
 refine (mkL_ARing _ K7 rfl p.fReady x8 y8 b8 W7 (by omega) (by omega) N8 h8).mono ?_
 rintro e W8 ⟨rfl, h8', hk1⟩
 replace h1 := gv_InsSS.keep h1 hk1 (fun y hy hy1 => E1 y hy y (by simp [hy1]) rfl)
 replace h2 := gv_ASlotS.keep h2 hk1 (fun y hy hy1 => E2 y hy y (by simp [hy1]) rfl)
 replace h3 := gv_IntS.keep h3 hk1 (fun y hy hy1 => E3 y hy y (by simp [hy1]) rfl)
 replace h4 := gv_BoolS.keep h4 hk1 (fun y hy hy1 => E4 y hy y (by simp [hy1]) rfl)
 replace h5 := gv_AOpenS.keep h5 hk1 (fun y hy hy1 => E5 y hy y (by simp [hy1]) rfl)
 replace h6 := gv_ARingS.keep h6 hk1 (fun y hy hy1 => E6 y hy y (by simp [hy1]) rfl)
 replace h7 := gv_AFileS.keep h7 hk1 (fun y hy hy1 => E7 y hy y (by simp [hy1]) rfl)
 replace h9 := gv_IntS.keep h9 hk1 (fun y hy hy1 => E8 y hy1 y (by simp [hy]) rfl)
 replace h8 := h8'
 clear h8'
 replace hB := hB.keep hk1 g8
 replace hk0 := hk0.then hk1 (fun y hy => .inl (by simp only [List.mem_append] at *; simp [hy]))
 clear hk1
 obtain ⟨K8, hK8⟩ : ∃ K8 : Nat, K7 + c_ARing p.fReady = K8 := ⟨_, rfl⟩
 have HK8 := hd hK8
 have hl8 : K8 ≤ 90000000 := by omega
 rw [hK8]
 replace hk : K8 + (c_IntS p.fOut) ≤ 90000000 := by omega
 clear hK8
 have a13_ := hB.a 13 _ rfl
 go_wp2_with (go_at_call 71; fail)
 clear a13_
 refine (mk_IntS _ K8 rfl _ p.fOut b9 W8 (by omega) N9 h9).mono ?_
 rintro e W9 ⟨rfl, h9', hk1⟩
 replace h1 := gv_InsSS.keep h1 hk1 (fun y hy hy1 => E1 y hy y (by simp [hy1]) rfl)
 replace h2 := gv_ASlotS.keep h2 hk1 (fun y hy hy1 => E2 y hy y (by simp [hy1]) rfl)
 replace h3 := gv_IntS.keep h3 hk1 (fun y hy hy1 => E3 y hy y (by simp [hy1]) rfl)
 replace h4 := gv_BoolS.keep h4 hk1 (fun y hy hy1 => E4 y hy y (by simp [hy1]) rfl)
 replace h5 := gv_AOpenS.keep h5 hk1 (fun y hy hy1 => E5 y hy y (by simp [hy1]) rfl)
 replace h6 := gv_ARingS.keep h6 hk1 (fun y hy hy1 => E6 y hy y (by simp [hy1]) rfl)
 replace h7 := gv_AFileS.keep h7 hk1 (fun y hy hy1 => E7 y hy y (by simp [hy1]) rfl)
 replace h8 := gv_IntS.keep h8 hk1 (fun y hy hy1 => E8 y hy y (by simp [hy1]) rfl)
 replace h9 := h9'
 clear h9'
 replace hB := hB.keep hk1 g9
 replace hk0 := hk0.then hk1 (fun y hy => .inl (by simp only [List.mem_append] at *; simp [hy]))
 clear hk1
 obtain ⟨K9, hK9⟩ : ∃ K9 : Nat, K8 + c_IntS p.fOut = K9 := ⟨_, rfl⟩
 have HK9 := hd hK9
 have hl9 : K9 ≤ 90000000 := by omega
 rw [hK9]
 replace hk : K9 + (0) ≤ 90000000 := by omega
 clear hK9
 go_wp2
 go_ret
 refine ⟨ret_int (by have := HK1.out; have := HK2.out; have := HK3.out; have := HK4.out; have := HK5.out; have := HK6.out; have := HK7.out; have := HK8.out; have := HK9.out; omega), ?_, ?_, ?_, ?_, ?_, ?_, ?_, ?_, ?_, hk0⟩
 ·unfold m_Arrays
  simp only [HK1.out, HK2.out, HK3.out, HK4.out, HK5.out, HK6.out, HK7.out, HK8.out, HK9.out]
  exact h1
 ·unfold m_Arrays
  simp only [HK1.out, HK2.out, HK3.out, HK4.out, HK5.out, HK6.out, HK7.out, HK8.out, HK9.out]
  exact h2
 ·unfold m_Arrays
  simp only [HK1.out, HK2.out, HK3.out, HK4.out, HK5.out, HK6.out, HK7.out, HK8.out, HK9.out]
  exact h3
 ·unfold m_Arrays
  simp only [HK1.out, HK2.out, HK3.out, HK4.out, HK5.out, HK6.out, HK7.out, HK8.out, HK9.out]
  exact h4
 ·unfold m_Arrays
  simp only [HK1.out, HK2.out, HK3.out, HK4.out, HK5.out, HK6.out, HK7.out, HK8.out, HK9.out]
  exact h5
 ·unfold m_Arrays
  simp only [HK1.out, HK2.out, HK3.out, HK4.out, HK5.out, HK6.out, HK7.out, HK8.out, HK9.out]
  exact h6
 ·unfold m_Arrays
  simp only [HK1.out, HK2.out, HK3.out, HK4.out, HK5.out, HK6.out, HK7.out, HK8.out, HK9.out]
  exact h7
 ·unfold m_Arrays
  simp only [HK1.out, HK2.out, HK3.out, HK4.out, HK5.out, HK6.out, HK7.out, HK8.out, HK9.out]
  exact h8
 ·unfold m_Arrays
  simp only [HK1.out, HK2.out, HK3.out, HK4.out, HK5.out, HK6.out, HK7.out, HK8.out, HK9.out]
  exact h9
theorem mk_Arrays (x : Int) (k : Nat) (hx : x = (k : Int)) (p : MArrays) (cs : List Value) (b : List Nat) (w : World) (hz : z_Arrays p ≤ 3000000) (hk : k + c_Arrays p ≤ 90000000) (hn : b.Nodup) (h : PArrays w cs p b) :
  Calls Tryz.prog 12 #[.agg cs.toArray, .int .i64 x] w fun e w' => e = .returned (.int .i64 ((k + c_Arrays p : Nat) : Int)) ∧ PArrays w' cs (m_Arrays k p) b ∧ Keep b w w' := by
 obtain ⟨v1, v2, v3, v4, v5, v6, v7, v8, v9, b1, b2, b3, b4, b5, b6, b7, b8, b9, rfl, h1, h2, h3, h4, h5, h6, h7, h8, h9, hbe⟩ := h
 obtain ⟨x1, y1, rfl⟩ := gv_InsSS.slice h1
 obtain ⟨x2, y2, rfl⟩ := gv_ASlotS.slice h2
 obtain ⟨x3, y3, rfl⟩ := gv_IntS.slice h3
 obtain ⟨x4, y4, rfl⟩ := gv_BoolS.slice h4
 obtain ⟨x5, y5, rfl⟩ := gv_AOpenS.slice h5
 obtain ⟨x6, y6, rfl⟩ := gv_ARingS.slice h6
 obtain ⟨x7, y7, rfl⟩ := gv_AFileS.slice h7
 obtain ⟨x8, y8, rfl⟩ := gv_IntS.slice h8
 obtain ⟨x9, y9, rfl⟩ := gv_IntS.slice h9
 rw [hbe] at hn ⊢
 refine (mkL_Arrays x k hx p x1 y1 b1 x2 y2 b2 x3 y3 b3 x4 y4 b4 x5 y5 b5 x6 y6 b6 x7 y7 b7 x8 y8 b8 x9 y9 b9 w hz hk hn h1 h2 h3 h4 h5 h6 h7 h8 h9).mono ?_
 rintro e w' ⟨rfl, h1', h2', h3', h4', h5', h6', h7', h8', h9', hk1⟩
 exact ⟨rfl, ⟨.slice x1 p.fProgs.length y1, .slice x2 p.fSlots.length y2, .slice x3 p.fRam.length y3, .slice x4 p.fMap.length y4, .slice x5 p.fOpens.length y5, .slice x6 p.fPipes.length y6, .slice x7 p.fFiles.length y7, .slice x8 p.fReady.fBuf.length y8, .slice x9 p.fOut.length y9, b1, b2, b3, b4, b5, b6, b7, b8, b9, rfl, h1', h2', h3', h4', h5', h6', h7', h8', h9', rfl⟩, hk1⟩
theorem mk_ProcS_nil (k : Nat) (w : World) (hk : k ≤ 90000000) :
  Calls Tryz.prog 77 #[.slice none 0 0, .int .i64 k] w fun e w' => e = .returned (.int .i64 (k : Int)) ∧ w = w' := by
 go_enter Tryz.func77, Tryz.ntmps77
 go_wp2_with fail
 go_loop [1, 5] (fun kv i => kv = .int .i64 (k : Int) ∧ i = .int .i64 0) (fun _ _ => 0)
 case atStart => exact ⟨rfl, rfl⟩
 case round =>
  obtain ⟨rfl, rfl⟩ := hrel
  go_wp2
  go_ret
  exact ⟨rfl, rfl⟩
set_option maxHeartbeats 4000000 in
theorem mk_ProcS_some (g cap k : Nat) (L : List MProc) (bs : List Nat) (w : World) (hz : z_ProcS L ≤ 3000000) (hk : k + sumG cE_Proc L ≤ 90000000) (hn : bs.Nodup) (h : OProcS w (.slice (some ⟨g, 0, none⟩) L.length cap) L bs) :
  Calls Tryz.prog 77 #[.slice (some ⟨g, 0, none⟩) L.length cap, .int .i64 k] w fun e w' => e = .returned (.int .i64 ((k + sumG cE_Proc L : Nat) : Int)) ∧ OProcS w' (.slice (some ⟨g, 0, none⟩) L.length cap) (markedG cE_Proc mE_Proc L k) bs ∧ Keep bs w w' := by
 have HS : Hid (∀ (i : Nat) (p : MProc), L[i]? = some p → z_Proc p ≤ 3000000) := hd (fun i p hp => by have := sumW_mem z_Proc _ i p hp; unfold z_ProcS wS at hz; omega)
 have hL : L.length ≤ 3000000 := by unfold z_ProcS wS at hz; omega
 have HO := hd (offG_all cE_Proc L k)
 have HK := hd (fun i => offG_le cE_Proc L k i)
 clear hz
 have HA := hd (partlyG_all cE_Proc mE_Proc L k)
 obtain ⟨KE, hKE⟩ : ∃ KE : Nat, k + sumG cE_Proc L = KE := ⟨_, rfl⟩
 rw [hKE] at hk HO HK ⊢
 have hst : OProcS w (.slice (some ⟨g, 0, none⟩) L.length cap) (partlyG cE_Proc mE_Proc L k 0) bs := by rw [partlyG_zero]; exact h
 have HST := hd hst
 have H0 := hd (offG_zero cE_Proc L k)
 clear h hKE hst
 go_enter Tryz.func77, Tryz.ntmps77
 go_wp2_with fail
 go_loopw [1, 5] (fun kv iv wr => ∃ (j K : Nat), j ≤ L.length ∧ kv = .int .i64 ((K : Nat) : Int) ∧ K ≤ KE ∧ Hid (K = offG cE_Proc L k j) ∧ iv = .int .i64 j ∧ Hid (OProcS wr (.slice (some ⟨g, 0, none⟩) L.length cap) (partlyG cE_Proc mE_Proc L k j) bs) ∧ Keep bs w wr) (fun _ iv _ => L.length - (intOf iv).toNat)
 case atStart => exact ⟨0, k, Nat.zero_le _, rfl, by have h1 := HK.out 0; rw [H0.out] at h1; exact h1, hd H0.out.symm, rfl, HST, Keep.refl _ _⟩
 case round =>
  clear HST H0
  obtain ⟨j, K, hj, rfl, hKE, hKo, rfl, hrow, hkeep⟩ := hrel
  by_cases hlt : j < L.length
  ·obtain ⟨p, cs, b, hl, hP, ho⟩ := hrow.out.out (i := j) (by rw [partlyG_length cE_Proc mE_Proc L k j hj]; exact hlt)
   rw [partlyG_get cE_Proc mE_Proc L k j hlt] at hl
   have hsm := HS.out j p hl
   unfold z_Proc z_Cpu at hsm
   have HSt := hd (offG_step cE_Proc L k j p hl)
   have HP := hd (partlyG_set cE_Proc mE_Proc L k j p hl)
   rw [← hKo.out] at HSt HP
   have hKn := HK.out (j + 1)
   rw [HSt.out] at hKn
   unfold cE_Proc at hKn
   have hj0 : (0 : Int) ≤ j := by omega
   have hj1 : (j : Int) < L.length := by omega
   have hgb := out_notin hn ho
   have hgi := out_in ho
   have hbn := out_nodup hn ho
   have hsub := ho.sub
   clear hl hrow
   obtain ⟨v1, v2, v3, b1, b2, b3, rfl, h1, h2, h3, hbe⟩ := hP
   obtain ⟨x1, y1, rfl⟩ := gv_IntS.slice h1
   obtain ⟨x2, y2, rfl⟩ := gv_IntS.slice h2
   obtain ⟨x3, y3, rfl⟩ := gv_IntS.slice h3
   subst hbe
   obtain ⟨N1, N1r, E1⟩ := List.nodup_append.1 hbn
   obtain ⟨N2, N3, E2⟩ := List.nodup_append.1 N1r
   have g1 : g ∉ b1 := fun h => hgb (by simp [h])
   have g2 : g ∉ b2 := fun h => hgb (by simp [h])
   have g3 : g ∉ b3 := fun h => hgb (by simp [h])
   have c0 := ho.cell 0 _ rfl
   have f0 := ho.frozen (j * 10)
   have c1 := ho.cell 1 _ rfl
   have f1 := ho.frozen (j * 10 + 1)
   have c2 := ho.cell 2 _ rfl
   have f2 := ho.frozen (j * 10 + 2)
   have c3 := ho.cell 3 _ rfl
   have f3 := ho.frozen (j * 10 + 3)
   have c4 := ho.cell 4 _ rfl
   have f4 := ho.frozen (j * 10 + 4)
   have c5 := ho.cell 5 _ rfl
   rw [Nat.add_zero] at c0
   have hks := (((((Keep.set wr g (j * 10 + 0) (.int .i64 ((K : Int))) [g] (by simp)).trans (Keep.set _ g (j * 10 + 1) (.int .i64 ((K : Int) + 1)) [g] (by simp))).trans (Keep.set _ g (j * 10 + 2) (.int .i64 ((K : Int) + 1 + 1)) [g] (by simp))).trans (Keep.set _ g (j * 10 + 3) (.int .i64 ((K : Int) + 1 + 1 + 1)) [g] (by simp))).trans (Keep.set _ g (j * 10 + 4) (.int .i64 ((K : Int) + 1 + 1 + 1 + 1)) [g] (by simp)))
   have ho_n := (((((ho.set good_Proc hn 0 (by omega) (.int .i64 ((K : Int)))).set good_Proc hn 1 (by omega) (.int .i64 ((K : Int) + 1))).set good_Proc hn 2 (by omega) (.int .i64 ((K : Int) + 1 + 1))).set good_Proc hn 3 (by omega) (.int .i64 ((K : Int) + 1 + 1 + 1))).set good_Proc hn 4 (by omega) (.int .i64 ((K : Int) + 1 + 1 + 1 + 1)))
   clear ho
   replace h1 := gv_IntS.keep h1 hks (fun y hy hyg => by simp at hyg; subst hyg; exact g1 hy)
   replace h2 := gv_IntS.keep h2 hks (fun y hy hyg => by simp at hyg; subst hyg; exact g2 hy)
   replace h3 := gv_IntS.keep h3 hks (fun y hy hyg => by simp at hyg; subst hyg; exact g3 hy)
   replace hkeep := hkeep.then hks (fun y hy => by simp at hy; subst hy; exact .inl hgi)
   clear hks
   have HO1 := hd ho_n
   clear ho_n
   have HM := hd (mk_IntS ((K : Int) + 1 + 1 + 1 + 1 + 1) (K + 5) (by go_num) _ p.fCpu.fRegs b1 _ (by omega) N1 h1)
   have H2 := hd h2
   have H3 := hd h3
   clear h1 h2 h3
   unfold MProc.cells cI at *
   go_wp2_with (go_at_call 71; fail)
   refine HM.out.mono ?_
   rintro e W1 ⟨rfl, h1, hk1⟩
   clear c0 f0 c1 f1 c2 f2 c3 f3 c4 f4 c5 HM
   have ho := HO1.out.keep good_Proc hn (hk1.mono (fun y hy => by simp [hy]))
   clear HO1
   have h2 := gv_IntS.keep H2.out hk1 (fun y hy hy1 => E1 y hy1 y (by simp [hy]) rfl)
   clear H2
   have h3 := gv_IntS.keep H3.out hk1 (fun y hy hy1 => E1 y hy1 y (by simp [hy]) rfl)
   clear H3
   replace hkeep := hkeep.then hk1 (fun y hy => .inl (hsub y (by simp [hy])))
   clear hk1
   obtain ⟨K1, hK1⟩ : ∃ K1 : Nat, (K + 5) + c_IntS p.fCpu.fRegs = K1 := ⟨_, rfl⟩
   have HK1 := hd hK1
   have hl1 : K1 ≤ KE := by omega
   rw [hK1]
   replace hKn : K1 + (2 + c_IntS p.fMem + c_IntS p.fFds) ≤ KE := by omega
   clear hK1
   have c6 := ho.cell 6 _ rfl
   have HO1 := hd ho
   clear ho
   have HM := hd (mk_IntS ((K1 : Int)) K1 (by go_num) _ p.fMem b2 _ (by omega) N2 h2)
   have H1 := hd h1
   have H3 := hd h3
   clear h1 h2 h3
   go_wp2_with (go_at_call 71; fail)
   refine HM.out.mono ?_
   rintro e W2 ⟨rfl, h2, hk1⟩
   clear c6 HM
   have ho := HO1.out.keep good_Proc hn (hk1.mono (fun y hy => by simp [hy]))
   clear HO1
   have h1 := gv_IntS.keep H1.out hk1 (fun y hy hy1 => E1 y hy y (by simp [hy1]) rfl)
   clear H1
   have h3 := gv_IntS.keep H3.out hk1 (fun y hy hy1 => E2 y hy1 y (by simp [hy]) rfl)
   clear H3
   replace hkeep := hkeep.then hk1 (fun y hy => .inl (hsub y (by simp [hy])))
   clear hk1
   obtain ⟨K2, hK2⟩ : ∃ K2 : Nat, K1 + c_IntS p.fMem = K2 := ⟨_, rfl⟩
   have HK2 := hd hK2
   have hl2 : K2 ≤ KE := by omega
   rw [hK2]
   replace hKn : K2 + (2 + c_IntS p.fFds) ≤ KE := by omega
   clear hK2
   have c7 := ho.cell 7 _ rfl
   have HO1 := hd ho
   clear ho
   have HM := hd (mk_IntS ((K2 : Int)) K2 (by go_num) _ p.fFds b3 _ (by omega) N3 h3)
   have H1 := hd h1
   have H2 := hd h2
   clear h1 h2 h3
   go_wp2_with (go_at_call 71; fail)
   refine HM.out.mono ?_
   rintro e W3 ⟨rfl, h3, hk1⟩
   clear c7 HM
   have ho := HO1.out.keep good_Proc hn (hk1.mono (fun y hy => by simp [hy]))
   clear HO1
   have h1 := gv_IntS.keep H1.out hk1 (fun y hy hy1 => E1 y hy y (by simp [hy1]) rfl)
   clear H1
   have h2 := gv_IntS.keep H2.out hk1 (fun y hy hy1 => E2 y hy y (by simp [hy1]) rfl)
   clear H2
   replace hkeep := hkeep.then hk1 (fun y hy => .inl (hsub y (by simp [hy])))
   clear hk1
   obtain ⟨K3, hK3⟩ : ∃ K3 : Nat, K2 + c_IntS p.fFds = K3 := ⟨_, rfl⟩
   have HK3 := hd hK3
   have hl3 : K3 ≤ KE := by omega
   rw [hK3]
   replace hKn : K3 + (2) ≤ KE := by omega
   clear hK3
   have c8 := ho.cell 8 _ rfl
   have f8 := ho.frozen (j * 10 + 8)
   have c9 := ho.cell 9 _ rfl
   have f9 := ho.frozen (j * 10 + 9)
   have hks := ((Keep.set W3 g (j * 10 + 8) (.int .i64 ((K3 : Int))) [g] (by simp)).trans (Keep.set _ g (j * 10 + 9) (.int .i64 ((K3 : Int) + 1)) [g] (by simp)))
   have ho_n := ((ho.set good_Proc hn 8 (by omega) (.int .i64 ((K3 : Int)))).set good_Proc hn 9 (by omega) (.int .i64 ((K3 : Int) + 1)))
   clear ho
   replace h1 := gv_IntS.keep h1 hks (fun y hy hyg => by simp at hyg; subst hyg; exact g1 hy)
   replace h2 := gv_IntS.keep h2 hks (fun y hy hyg => by simp at hyg; subst hyg; exact g2 hy)
   replace h3 := gv_IntS.keep h3 hks (fun y hy hyg => by simp at hyg; subst hyg; exact g3 hy)
   replace hkeep := hkeep.then hks (fun y hy => by simp at hy; subst hy; exact .inl hgi)
   clear hks
   have HO1 := hd ho_n
   clear ho_n
   have H1 := hd h1
   clear h1
   have H2 := hd h2
   clear h2
   have H3 := hd h3
   clear h3
   go_wp2_with fail
   clear c8 f8 c9 f9
   go_roundw
   case rel =>
    refine ⟨j + 1, K3 + 2, by omega, by go_num, by omega, hd ?_, by go_num, hd ?_, hkeep⟩
    ·rw [HSt.out]; unfold cE_Proc; have := HK1.out; have := HK2.out; have := HK3.out; omega
    ·rw [← HP.out]
     refine HO1.out.shut (x := mE_Proc K p) ⟨.slice x1 p.fCpu.fRegs.length y1, .slice x2 p.fMem.length y2, .slice x3 p.fFds.length y3, b1, b2, b3, ?_, ?_, ?_, ?_, rfl⟩
     ·unfold mE_Proc MProc.cells cI
      simp only [HK1.out, HK2.out, HK3.out, ml_IntS]
      try rfl
     ·unfold mE_Proc
      simp only [HK1.out, HK2.out, HK3.out]
      exact H1.out
     ·unfold mE_Proc
      simp only [HK1.out, HK2.out, HK3.out]
      exact H2.out
     ·unfold mE_Proc
      simp only [HK1.out, HK2.out, HK3.out]
      exact H3.out
   case measure => simp [intOf]; omega
  ·obtain rfl : j = L.length := by omega
   go_wp2
   go_ret
   exact ⟨ret_int (by have := HO.out; have := hKo.out; omega), by rw [← HA.out]; exact hrow.out, hkeep⟩
theorem mk_ProcS (x : Int) (k : Nat) (hx : x = (k : Int)) (v : Value) (L : List MProc) (b : List Nat) (w : World) (hz : z_ProcS L ≤ 3000000) (hk : k + c_ProcS L ≤ 90000000) (hn : b.Nodup) (h : OProcS w v L b) :
  Calls Tryz.prog 77 #[v, .int .i64 x] w fun e w' => e = .returned (.int .i64 ((k + c_ProcS L : Nat) : Int)) ∧ OProcS w' v (m_ProcS k L) b ∧ Keep b w w' := by
 subst hx
 unfold c_ProcS m_ProcS at *
 rcases h.cases with ⟨rfl, rfl, rfl⟩ | ⟨g, c, rfl, hg, _⟩
 ·refine (mk_ProcS_nil k w (by omega)).mono ?_
  rintro e w' ⟨rfl, rfl⟩
  exact ⟨by simp [sumG], h, Keep.refl _ _⟩
 ·exact mk_ProcS_some g c k L b w hz hk hn h
theorem hl_ProcS_nil (k : Nat) (w : World) (hk : k ≤ 90000000) :
  Calls Tryz.prog 82 #[.slice none 0 0, .int .i64 k] w fun e w' => e = .returned (.int .i64 (k : Int)) ∧ w = w' := by
 go_enter Tryz.func82, Tryz.ntmps82
 go_wp2_with fail
 go_loop [1, 5] (fun kv i => kv = .int .i64 (k : Int) ∧ i = .int .i64 0) (fun _ _ => 0)
 case atStart => exact ⟨rfl, rfl⟩
 case round =>
  obtain ⟨rfl, rfl⟩ := hrel
  go_wp2
  go_ret
  exact ⟨rfl, rfl⟩
set_option maxHeartbeats 4000000 in
theorem hl_ProcS_some (g cap k : Nat) (L : List MProc) (bs : List Nat) (w : World) (hz : z_ProcS L ≤ 3000000) (hk : k + sumG cE_Proc L ≤ 90000000) (h : OProcS w (.slice (some ⟨g, 0, none⟩) L.length cap) (markedG cE_Proc mE_Proc L k) bs) :
  Calls Tryz.prog 82 #[.slice (some ⟨g, 0, none⟩) L.length cap, .int .i64 k] w fun e w' => e = .returned (.int .i64 ((k + sumG cE_Proc L : Nat) : Int)) ∧ w = w' := by
 have HS : Hid (∀ (i : Nat) (p : MProc), L[i]? = some p → z_Proc p ≤ 3000000) := hd (fun i p hp => by have := sumW_mem z_Proc _ i p hp; unfold z_ProcS wS at hz; omega)
 have hL : L.length ≤ 3000000 := by unfold z_ProcS wS at hz; omega
 have HO := hd (offG_all cE_Proc L k)
 have HK := hd (fun i => offG_le cE_Proc L k i)
 clear hz
 obtain ⟨KE, hKE⟩ : ∃ KE : Nat, k + sumG cE_Proc L = KE := ⟨_, rfl⟩
 rw [hKE] at hk HO HK ⊢
 have HR := hd h
 have H0 := hd (offG_zero cE_Proc L k)
 clear h hKE
 go_enter Tryz.func82, Tryz.ntmps82
 go_wp2_with fail
 go_loop [1, 5] (fun kv iv => ∃ (j K : Nat), j ≤ L.length ∧ kv = .int .i64 ((K : Nat) : Int) ∧ K ≤ KE ∧ Hid (K = offG cE_Proc L k j) ∧ iv = .int .i64 j) (fun _ iv => L.length - (intOf iv).toNat)
 case atStart => exact ⟨0, k, Nat.zero_le _, rfl, by have h1 := HK.out 0; rw [H0.out] at h1; exact h1, hd H0.out.symm, rfl⟩
 case round =>
  clear H0
  obtain ⟨j, K, hj, rfl, hKE, hKo, rfl⟩ := hrel
  by_cases hlt : j < L.length
  ·obtain ⟨p, hl⟩ : ∃ p, L[j]? = some p := ⟨L[j], by simp [hlt]⟩
   obtain ⟨p', cs, b, hl', hP, ho⟩ := HR.out.out (i := j) (by rw [markedG_length]; exact hlt)
   rw [markedG_get cE_Proc mE_Proc L k j p hl, ← hKo.out] at hl'
   simp only [Option.some.injEq] at hl'
   subst hl'
   have hsm := HS.out j p hl
   unfold z_Proc z_Cpu at hsm
   have HSt := hd (offG_step cE_Proc L k j p hl)
   rw [← hKo.out] at HSt
   have hKn := HK.out (j + 1)
   rw [HSt.out] at hKn
   unfold cE_Proc at hKn
   have hj0 : (0 : Int) ≤ j := by omega
   have hj1 : (j : Int) < L.length := by omega
   clear hl
   obtain ⟨v1, v2, v3, b1, b2, b3, rfl, h1, h2, h3, hbe⟩ := hP
   obtain ⟨x1, y1, rfl⟩ := gv_IntS.slice h1
   obtain ⟨x2, y2, rfl⟩ := gv_IntS.slice h2
   obtain ⟨x3, y3, rfl⟩ := gv_IntS.slice h3
   have c0 := ho.cell 0 _ rfl
   have c1 := ho.cell 1 _ rfl
   have c2 := ho.cell 2 _ rfl
   have c3 := ho.cell 3 _ rfl
   have c4 := ho.cell 4 _ rfl
   have c5 := ho.cell 5 _ rfl
   have c6 := ho.cell 6 _ rfl
   have c7 := ho.cell 7 _ rfl
   have c8 := ho.cell 8 _ rfl
   have c9 := ho.cell 9 _ rfl
   rw [Nat.add_zero] at c0
   unfold mE_Proc cI at *
   simp only [ml_IntS] at *
   clear ho hbe
   have HM := hd (hl_IntS ((K : Int) + 1 + 1 + 1 + 1 + 1) (K + 5) (by go_num) _ p.fCpu.fRegs _ w (by omega) h1)
   clear h1
   go_wp2_with (go_at_call 86; fail)
   refine HM.out.mono ?_
   rintro e w' ⟨rfl, rfl⟩
   clear HM
   obtain ⟨K1, hK1⟩ : ∃ K1 : Nat, (K + 5) + c_IntS p.fCpu.fRegs = K1 := ⟨_, rfl⟩
   have HK1 := hd hK1
   have hl1 : K1 ≤ KE := by omega
   simp only [hK1] at c6 c7 c8 c9 h2 h3 ⊢
   replace hKn : K1 + (2 + c_IntS p.fMem + c_IntS p.fFds) ≤ KE := by omega
   have hng1 : decide ((K1 : Int) < 0) = false := by simp
   clear hK1
   have HM := hd (hl_IntS ((K1 : Int)) K1 (by go_num) _ p.fMem _ w (by omega) h2)
   clear h2
   go_wp2_with (go_at_call 86; fail)
   refine HM.out.mono ?_
   rintro e w' ⟨rfl, rfl⟩
   clear HM
   obtain ⟨K2, hK2⟩ : ∃ K2 : Nat, K1 + c_IntS p.fMem = K2 := ⟨_, rfl⟩
   have HK2 := hd hK2
   have hl2 : K2 ≤ KE := by omega
   simp only [hK2] at c7 c8 c9 h3 ⊢
   replace hKn : K2 + (2 + c_IntS p.fFds) ≤ KE := by omega
   have hng2 : decide ((K2 : Int) < 0) = false := by simp
   clear hK2
   have HM := hd (hl_IntS ((K2 : Int)) K2 (by go_num) _ p.fFds _ w (by omega) h3)
   clear h3
   go_wp2_with (go_at_call 86; fail)
   refine HM.out.mono ?_
   rintro e w' ⟨rfl, rfl⟩
   clear HM
   obtain ⟨K3, hK3⟩ : ∃ K3 : Nat, K2 + c_IntS p.fFds = K3 := ⟨_, rfl⟩
   have HK3 := hd hK3
   have hl3 : K3 ≤ KE := by omega
   simp only [hK3] at c8 c9 ⊢
   replace hKn : K3 + (2) ≤ KE := by omega
   have hng3 : decide ((K3 : Int) < 0) = false := by simp
   clear hK3
   go_wp2
   go_round
   case rel => exact ⟨j + 1, K3 + 2, by omega, by go_num, by omega, hd (by rw [HSt.out]; unfold cE_Proc; have := HK1.out; have := HK2.out; have := HK3.out; omega), by go_num⟩
   case measure => simp [intOf]; omega
  ·obtain rfl : j = L.length := by omega
   go_wp2
   go_ret
   exact ⟨ret_int (by have := HO.out; have := hKo.out; omega), rfl⟩
theorem hl_ProcS (x : Int) (k : Nat) (hx : x = (k : Int)) (v : Value) (L : List MProc) (b : List Nat) (w : World) (hz : z_ProcS L ≤ 3000000) (hk : k + c_ProcS L ≤ 90000000) (h : OProcS w v (m_ProcS k L) b) :
  Calls Tryz.prog 82 #[v, .int .i64 x] w fun e w' => e = .returned (.int .i64 ((k + c_ProcS L : Nat) : Int)) ∧ w = w' := by
 subst hx
 unfold c_ProcS m_ProcS at *
 rcases h.cases with ⟨rfl, h0, rfl⟩ | ⟨g, c, rfl, hg, _⟩
 ·obtain rfl : L = [] := List.eq_nil_of_length_eq_zero (by rw [← markedG_length cE_Proc mE_Proc L k, h0]; rfl)
  refine (hl_ProcS_nil k w (by omega)).mono ?_
  rintro e w' ⟨rfl, rfl⟩
  exact ⟨by simp [sumG], rfl⟩
 ·rw [markedG_length] at h ⊢
  exact hl_ProcS_some g c k L b w hz hk h

theorem mk_OpenS_nil (k : Nat) (w : World) (hk : k ≤ 90000000) :
  Calls Tryz.prog 78 #[.slice none 0 0, .int .i64 k] w fun e w' => e = .returned (.int .i64 (k : Int)) ∧ w = w' := by
 go_enter Tryz.func78, Tryz.ntmps78
 go_wp2_with fail
 go_loop [1, 5] (fun kv i => kv = .int .i64 (k : Int) ∧ i = .int .i64 0) (fun _ _ => 0)
 case atStart => exact ⟨rfl, rfl⟩
 case round =>
  obtain ⟨rfl, rfl⟩ := hrel
  go_wp2
  go_ret
  exact ⟨rfl, rfl⟩
set_option maxHeartbeats 4000000 in
theorem mk_OpenS_some (g cap k : Nat) (L : List MOpen) (bs : List Nat) (w : World) (hz : z_OpenS L ≤ 3000000) (hk : k + sumG cE_Open L ≤ 90000000) (hn : bs.Nodup) (h : OOpenS w (.slice (some ⟨g, 0, none⟩) L.length cap) L bs) :
  Calls Tryz.prog 78 #[.slice (some ⟨g, 0, none⟩) L.length cap, .int .i64 k] w fun e w' => e = .returned (.int .i64 ((k + sumG cE_Open L : Nat) : Int)) ∧ OOpenS w' (.slice (some ⟨g, 0, none⟩) L.length cap) (markedG cE_Open mE_Open L k) bs ∧ Keep bs w w' := by
 have HS : Hid (∀ (i : Nat) (p : MOpen), L[i]? = some p → z_Open p ≤ 3000000) := hd (fun i p hp => by unfold z_Open; omega)
 have hL : L.length ≤ 3000000 := by unfold z_OpenS at hz; omega
 have HO := hd (offG_all cE_Open L k)
 have HK := hd (fun i => offG_le cE_Open L k i)
 clear hz
 have HA := hd (partlyG_all cE_Open mE_Open L k)
 obtain ⟨KE, hKE⟩ : ∃ KE : Nat, k + sumG cE_Open L = KE := ⟨_, rfl⟩
 rw [hKE] at hk HO HK ⊢
 have hst : OOpenS w (.slice (some ⟨g, 0, none⟩) L.length cap) (partlyG cE_Open mE_Open L k 0) bs := by rw [partlyG_zero]; exact h
 have HST := hd hst
 have H0 := hd (offG_zero cE_Open L k)
 clear h hKE hst
 go_enter Tryz.func78, Tryz.ntmps78
 go_wp2_with fail
 go_loopw [1, 5] (fun kv iv wr => ∃ (j K : Nat), j ≤ L.length ∧ kv = .int .i64 ((K : Nat) : Int) ∧ K ≤ KE ∧ Hid (K = offG cE_Open L k j) ∧ iv = .int .i64 j ∧ Hid (OOpenS wr (.slice (some ⟨g, 0, none⟩) L.length cap) (partlyG cE_Open mE_Open L k j) bs) ∧ Keep bs w wr) (fun _ iv _ => L.length - (intOf iv).toNat)
 case atStart => exact ⟨0, k, Nat.zero_le _, rfl, by have h1 := HK.out 0; rw [H0.out] at h1; exact h1, hd H0.out.symm, rfl, HST, Keep.refl _ _⟩
 case round =>
  clear HST H0
  obtain ⟨j, K, hj, rfl, hKE, hKo, rfl, hrow, hkeep⟩ := hrel
  by_cases hlt : j < L.length
  ·obtain ⟨p, cs, b, hl, hP, ho⟩ := hrow.out.out (i := j) (by rw [partlyG_length cE_Open mE_Open L k j hj]; exact hlt)
   rw [partlyG_get cE_Open mE_Open L k j hlt] at hl
   have hsm := HS.out j p hl
   have HSt := hd (offG_step cE_Open L k j p hl)
   have HP := hd (partlyG_set cE_Open mE_Open L k j p hl)
   rw [← hKo.out] at HSt HP
   have hKn := HK.out (j + 1)
   rw [HSt.out] at hKn
   unfold cE_Open at hKn
   have hj0 : (0 : Int) ≤ j := by omega
   have hj1 : (j : Int) < L.length := by omega
   have hgb := out_notin hn ho
   have hgi := out_in ho
   have hbn := out_nodup hn ho
   have hsub := ho.sub
   clear hl hrow
   obtain ⟨rfl, hbe⟩ := hP
   subst hbe
   have c0 := ho.cell 0 _ rfl
   have f0 := ho.frozen (j * 5)
   have c1 := ho.cell 1 _ rfl
   have f1 := ho.frozen (j * 5 + 1)
   have c2 := ho.cell 2 _ rfl
   have f2 := ho.frozen (j * 5 + 2)
   have c3 := ho.cell 3 _ rfl
   have f3 := ho.frozen (j * 5 + 3)
   have c4 := ho.cell 4 _ rfl
   have f4 := ho.frozen (j * 5 + 4)
   rw [Nat.add_zero] at c0
   have hks := (((((Keep.set wr g (j * 5 + 0) (.int .i64 ((K : Int))) [g] (by simp)).trans (Keep.set _ g (j * 5 + 1) (.int .i64 ((K : Int) + 1)) [g] (by simp))).trans (Keep.set _ g (j * 5 + 2) (.int .i64 ((K : Int) + 1 + 1)) [g] (by simp))).trans (Keep.set _ g (j * 5 + 3) (.int .i64 ((K : Int) + 1 + 1 + 1)) [g] (by simp))).trans (Keep.set _ g (j * 5 + 4) (.int .i64 ((K : Int) + 1 + 1 + 1 + 1)) [g] (by simp)))
   have ho_n := (((((ho.set good_Open hn 0 (by omega) (.int .i64 ((K : Int)))).set good_Open hn 1 (by omega) (.int .i64 ((K : Int) + 1))).set good_Open hn 2 (by omega) (.int .i64 ((K : Int) + 1 + 1))).set good_Open hn 3 (by omega) (.int .i64 ((K : Int) + 1 + 1 + 1))).set good_Open hn 4 (by omega) (.int .i64 ((K : Int) + 1 + 1 + 1 + 1)))
   clear ho
   replace hkeep := hkeep.then hks (fun y hy => by simp at hy; subst hy; exact .inl hgi)
   clear hks
   have HO1 := hd ho_n
   clear ho_n
   unfold MOpen.cells cI at *
   go_wp2_with fail
   clear c0 f0 c1 f1 c2 f2 c3 f3 c4 f4
   go_roundw
   case rel =>
    refine ⟨j + 1, K + 5, by omega, by go_num, by omega, hd ?_, by go_num, hd ?_, hkeep⟩
    ·rw [HSt.out]; unfold cE_Open; omega
    ·rw [← HP.out]
     exact HO1.out.shut (x := mE_Open K p) ⟨rfl, rfl⟩
   case measure => simp [intOf]; omega
  ·obtain rfl : j = L.length := by omega
   go_wp2
   go_ret
   exact ⟨ret_int (by have := HO.out; have := hKo.out; omega), by rw [← HA.out]; exact hrow.out, hkeep⟩
theorem mk_OpenS (x : Int) (k : Nat) (hx : x = (k : Int)) (v : Value) (L : List MOpen) (b : List Nat) (w : World) (hz : z_OpenS L ≤ 3000000) (hk : k + c_OpenS L ≤ 90000000) (hn : b.Nodup) (h : OOpenS w v L b) :
  Calls Tryz.prog 78 #[v, .int .i64 x] w fun e w' => e = .returned (.int .i64 ((k + c_OpenS L : Nat) : Int)) ∧ OOpenS w' v (m_OpenS k L) b ∧ Keep b w w' := by
 subst hx
 unfold c_OpenS m_OpenS at *
 rcases h.cases with ⟨rfl, rfl, rfl⟩ | ⟨g, c, rfl, hg, _⟩
 ·refine (mk_OpenS_nil k w (by omega)).mono ?_
  rintro e w' ⟨rfl, rfl⟩
  exact ⟨by simp [sumG], h, Keep.refl _ _⟩
 ·exact mk_OpenS_some g c k L b w hz hk hn h
theorem hl_OpenS_nil (k : Nat) (w : World) (hk : k ≤ 90000000) :
  Calls Tryz.prog 83 #[.slice none 0 0, .int .i64 k] w fun e w' => e = .returned (.int .i64 (k : Int)) ∧ w = w' := by
 go_enter Tryz.func83, Tryz.ntmps83
 go_wp2_with fail
 go_loop [1, 5] (fun kv i => kv = .int .i64 (k : Int) ∧ i = .int .i64 0) (fun _ _ => 0)
 case atStart => exact ⟨rfl, rfl⟩
 case round =>
  obtain ⟨rfl, rfl⟩ := hrel
  go_wp2
  go_ret
  exact ⟨rfl, rfl⟩
set_option maxHeartbeats 4000000 in
theorem hl_OpenS_some (g cap k : Nat) (L : List MOpen) (bs : List Nat) (w : World) (hz : z_OpenS L ≤ 3000000) (hk : k + sumG cE_Open L ≤ 90000000) (h : OOpenS w (.slice (some ⟨g, 0, none⟩) L.length cap) (markedG cE_Open mE_Open L k) bs) :
  Calls Tryz.prog 83 #[.slice (some ⟨g, 0, none⟩) L.length cap, .int .i64 k] w fun e w' => e = .returned (.int .i64 ((k + sumG cE_Open L : Nat) : Int)) ∧ w = w' := by
 have HS : Hid (∀ (i : Nat) (p : MOpen), L[i]? = some p → z_Open p ≤ 3000000) := hd (fun i p hp => by unfold z_Open; omega)
 have hL : L.length ≤ 3000000 := by unfold z_OpenS at hz; omega
 have HO := hd (offG_all cE_Open L k)
 have HK := hd (fun i => offG_le cE_Open L k i)
 clear hz
 obtain ⟨KE, hKE⟩ : ∃ KE : Nat, k + sumG cE_Open L = KE := ⟨_, rfl⟩
 rw [hKE] at hk HO HK ⊢
 have HR := hd h
 have H0 := hd (offG_zero cE_Open L k)
 clear h hKE
 go_enter Tryz.func83, Tryz.ntmps83
 go_wp2_with fail
 go_loop [1, 5] (fun kv iv => ∃ (j K : Nat), j ≤ L.length ∧ kv = .int .i64 ((K : Nat) : Int) ∧ K ≤ KE ∧ Hid (K = offG cE_Open L k j) ∧ iv = .int .i64 j) (fun _ iv => L.length - (intOf iv).toNat)
 case atStart => exact ⟨0, k, Nat.zero_le _, rfl, by have h1 := HK.out 0; rw [H0.out] at h1; exact h1, hd H0.out.symm, rfl⟩
 case round =>
  clear H0
  obtain ⟨j, K, hj, rfl, hKE, hKo, rfl⟩ := hrel
  by_cases hlt : j < L.length
  ·obtain ⟨p, hl⟩ : ∃ p, L[j]? = some p := ⟨L[j], by simp [hlt]⟩
   obtain ⟨p', cs, b, hl', hP, ho⟩ := HR.out.out (i := j) (by rw [markedG_length]; exact hlt)
   rw [markedG_get cE_Open mE_Open L k j p hl, ← hKo.out] at hl'
   simp only [Option.some.injEq] at hl'
   subst hl'
   have hsm := HS.out j p hl
   have HSt := hd (offG_step cE_Open L k j p hl)
   rw [← hKo.out] at HSt
   have hKn := HK.out (j + 1)
   rw [HSt.out] at hKn
   unfold cE_Open at hKn
   have hj0 : (0 : Int) ≤ j := by omega
   have hj1 : (j : Int) < L.length := by omega
   clear hl
   obtain ⟨rfl, hbe⟩ := hP
   have c0 := ho.cell 0 _ rfl
   have c1 := ho.cell 1 _ rfl
   have c2 := ho.cell 2 _ rfl
   have c3 := ho.cell 3 _ rfl
   have c4 := ho.cell 4 _ rfl
   rw [Nat.add_zero] at c0
   unfold mE_Open cI at *
   simp only at *
   clear ho hbe
   go_wp2
   go_round
   case rel => exact ⟨j + 1, K + 5, by omega, by go_num, by omega, hd (by rw [HSt.out]; unfold cE_Open; omega), by go_num⟩
   case measure => simp [intOf]; omega
  ·obtain rfl : j = L.length := by omega
   go_wp2
   go_ret
   exact ⟨ret_int (by have := HO.out; have := hKo.out; omega), rfl⟩
theorem hl_OpenS (x : Int) (k : Nat) (hx : x = (k : Int)) (v : Value) (L : List MOpen) (b : List Nat) (w : World) (hz : z_OpenS L ≤ 3000000) (hk : k + c_OpenS L ≤ 90000000) (h : OOpenS w v (m_OpenS k L) b) :
  Calls Tryz.prog 83 #[v, .int .i64 x] w fun e w' => e = .returned (.int .i64 ((k + c_OpenS L : Nat) : Int)) ∧ w = w' := by
 subst hx
 unfold c_OpenS m_OpenS at *
 rcases h.cases with ⟨rfl, h0, rfl⟩ | ⟨g, c, rfl, hg, _⟩
 ·obtain rfl : L = [] := List.eq_nil_of_length_eq_zero (by rw [← markedG_length cE_Open mE_Open L k, h0]; rfl)
  refine (hl_OpenS_nil k w (by omega)).mono ?_
  rintro e w' ⟨rfl, rfl⟩
  exact ⟨by simp [sumG], rfl⟩
 ·rw [markedG_length] at h ⊢
  exact hl_OpenS_some g c k L b w hz hk h

theorem mk_PipeS_nil (k : Nat) (w : World) (hk : k ≤ 90000000) :
  Calls Tryz.prog 79 #[.slice none 0 0, .int .i64 k] w fun e w' => e = .returned (.int .i64 (k : Int)) ∧ w = w' := by
 go_enter Tryz.func79, Tryz.ntmps79
 go_wp2_with fail
 go_loop [1, 5] (fun kv i => kv = .int .i64 (k : Int) ∧ i = .int .i64 0) (fun _ _ => 0)
 case atStart => exact ⟨rfl, rfl⟩
 case round =>
  obtain ⟨rfl, rfl⟩ := hrel
  go_wp2
  go_ret
  exact ⟨rfl, rfl⟩
set_option maxHeartbeats 4000000 in
theorem mk_PipeS_some (g cap k : Nat) (L : List MPipe) (bs : List Nat) (w : World) (hz : z_PipeS L ≤ 3000000) (hk : k + sumG cE_Pipe L ≤ 90000000) (hn : bs.Nodup) (h : OPipeS w (.slice (some ⟨g, 0, none⟩) L.length cap) L bs) :
  Calls Tryz.prog 79 #[.slice (some ⟨g, 0, none⟩) L.length cap, .int .i64 k] w fun e w' => e = .returned (.int .i64 ((k + sumG cE_Pipe L : Nat) : Int)) ∧ OPipeS w' (.slice (some ⟨g, 0, none⟩) L.length cap) (markedG cE_Pipe mE_Pipe L k) bs ∧ Keep bs w w' := by
 have HS : Hid (∀ (i : Nat) (p : MPipe), L[i]? = some p → z_Pipe p ≤ 3000000) := hd (fun i p hp => by have := sumW_mem z_Pipe _ i p hp; unfold z_PipeS wS at hz; omega)
 have hL : L.length ≤ 3000000 := by unfold z_PipeS wS at hz; omega
 have HO := hd (offG_all cE_Pipe L k)
 have HK := hd (fun i => offG_le cE_Pipe L k i)
 clear hz
 have HA := hd (partlyG_all cE_Pipe mE_Pipe L k)
 obtain ⟨KE, hKE⟩ : ∃ KE : Nat, k + sumG cE_Pipe L = KE := ⟨_, rfl⟩
 rw [hKE] at hk HO HK ⊢
 have hst : OPipeS w (.slice (some ⟨g, 0, none⟩) L.length cap) (partlyG cE_Pipe mE_Pipe L k 0) bs := by rw [partlyG_zero]; exact h
 have HST := hd hst
 have H0 := hd (offG_zero cE_Pipe L k)
 clear h hKE hst
 go_enter Tryz.func79, Tryz.ntmps79
 go_wp2_with fail
 go_loopw [1, 5] (fun kv iv wr => ∃ (j K : Nat), j ≤ L.length ∧ kv = .int .i64 ((K : Nat) : Int) ∧ K ≤ KE ∧ Hid (K = offG cE_Pipe L k j) ∧ iv = .int .i64 j ∧ Hid (OPipeS wr (.slice (some ⟨g, 0, none⟩) L.length cap) (partlyG cE_Pipe mE_Pipe L k j) bs) ∧ Keep bs w wr) (fun _ iv _ => L.length - (intOf iv).toNat)
 case atStart => exact ⟨0, k, Nat.zero_le _, rfl, by have h1 := HK.out 0; rw [H0.out] at h1; exact h1, hd H0.out.symm, rfl, HST, Keep.refl _ _⟩
 case round =>
  clear HST H0
  obtain ⟨j, K, hj, rfl, hKE, hKo, rfl, hrow, hkeep⟩ := hrel
  by_cases hlt : j < L.length
  ·obtain ⟨p, cs, b, hl, hP, ho⟩ := hrow.out.out (i := j) (by rw [partlyG_length cE_Pipe mE_Pipe L k j hj]; exact hlt)
   rw [partlyG_get cE_Pipe mE_Pipe L k j hlt] at hl
   have hsm := HS.out j p hl
   unfold z_Pipe at hsm
   have HSt := hd (offG_step cE_Pipe L k j p hl)
   have HP := hd (partlyG_set cE_Pipe mE_Pipe L k j p hl)
   rw [← hKo.out] at HSt HP
   have hKn := HK.out (j + 1)
   rw [HSt.out] at hKn
   unfold cE_Pipe at hKn
   have hj0 : (0 : Int) ≤ j := by omega
   have hj1 : (j : Int) < L.length := by omega
   have hgb := out_notin hn ho
   have hgi := out_in ho
   have hbn := out_nodup hn ho
   have hsub := ho.sub
   clear hl hrow
   obtain ⟨v1, b1, rfl, h1, hbe⟩ := hP
   obtain ⟨x1, y1, rfl⟩ := gv_IntS.slice h1
   rw [hbe] at ho hgb hbn hsub
   clear hbe
   have N1 := hbn
   have g1 : g ∉ b1 := hgb
   have c0 := ho.cell 0 _ rfl
   have f0 := ho.frozen (j * 2)
   have c1 := ho.cell 1 _ rfl
   rw [Nat.add_zero] at c0
   have hks := (Keep.set wr g (j * 2 + 0) (.int .i64 ((K : Int))) [g] (by simp))
   have ho_n := (ho.set good_Pipe hn 0 (by omega) (.int .i64 ((K : Int))))
   clear ho
   replace h1 := gv_IntS.keep h1 hks (fun y hy hyg => by simp at hyg; subst hyg; exact g1 hy)
   replace hkeep := hkeep.then hks (fun y hy => by simp at hy; subst hy; exact .inl hgi)
   clear hks
   have HO1 := hd ho_n
   clear ho_n
   have HM := hd (mk_IntS ((K : Int) + 1) (K + 1) (by go_num) _ p.fData b1 _ (by omega) N1 h1)
   clear h1
   unfold MPipe.cells cI at *
   go_wp2_with (go_at_call 71; fail)
   refine HM.out.mono ?_
   rintro e W1 ⟨rfl, h1, hk1⟩
   clear c0 f0 c1 HM
   have ho := HO1.out.keep good_Pipe hn hk1
   clear HO1
   replace hkeep := hkeep.then hk1 (fun y hy => .inl (hsub y hy))
   clear hk1
   obtain ⟨K1, hK1⟩ : ∃ K1 : Nat, (K + 1) + c_IntS p.fData = K1 := ⟨_, rfl⟩
   have HK1 := hd hK1
   have hl1 : K1 ≤ KE := by omega
   rw [hK1]
   replace hKn : K1 + (0) ≤ KE := by omega
   clear hK1
   have HO1 := hd ho
   clear ho
   have H1 := hd h1
   clear h1
   go_wp2_with fail
   go_roundw
   case rel =>
    refine ⟨j + 1, K1 + 0, by omega, by go_num, by omega, hd ?_, by go_num, hd ?_, hkeep⟩
    ·rw [HSt.out]; unfold cE_Pipe; have := HK1.out; omega
    ·rw [← HP.out]
     refine HO1.out.shut (x := mE_Pipe K p) ⟨.slice x1 p.fData.length y1, b1, ?_, ?_, rfl⟩
     ·unfold mE_Pipe MPipe.cells cI
      simp only [HK1.out, ml_IntS]
      try rfl
     ·unfold mE_Pipe
      simp only [HK1.out]
      exact H1.out
   case measure => simp [intOf]; omega
  ·obtain rfl : j = L.length := by omega
   go_wp2
   go_ret
   exact ⟨ret_int (by have := HO.out; have := hKo.out; omega), by rw [← HA.out]; exact hrow.out, hkeep⟩
theorem mk_PipeS (x : Int) (k : Nat) (hx : x = (k : Int)) (v : Value) (L : List MPipe) (b : List Nat) (w : World) (hz : z_PipeS L ≤ 3000000) (hk : k + c_PipeS L ≤ 90000000) (hn : b.Nodup) (h : OPipeS w v L b) :
  Calls Tryz.prog 79 #[v, .int .i64 x] w fun e w' => e = .returned (.int .i64 ((k + c_PipeS L : Nat) : Int)) ∧ OPipeS w' v (m_PipeS k L) b ∧ Keep b w w' := by
 subst hx
 unfold c_PipeS m_PipeS at *
 rcases h.cases with ⟨rfl, rfl, rfl⟩ | ⟨g, c, rfl, hg, _⟩
 ·refine (mk_PipeS_nil k w (by omega)).mono ?_
  rintro e w' ⟨rfl, rfl⟩
  exact ⟨by simp [sumG], h, Keep.refl _ _⟩
 ·exact mk_PipeS_some g c k L b w hz hk hn h
theorem hl_PipeS_nil (k : Nat) (w : World) (hk : k ≤ 90000000) :
  Calls Tryz.prog 84 #[.slice none 0 0, .int .i64 k] w fun e w' => e = .returned (.int .i64 (k : Int)) ∧ w = w' := by
 go_enter Tryz.func84, Tryz.ntmps84
 go_wp2_with fail
 go_loop [1, 5] (fun kv i => kv = .int .i64 (k : Int) ∧ i = .int .i64 0) (fun _ _ => 0)
 case atStart => exact ⟨rfl, rfl⟩
 case round =>
  obtain ⟨rfl, rfl⟩ := hrel
  go_wp2
  go_ret
  exact ⟨rfl, rfl⟩
set_option maxHeartbeats 4000000 in
theorem hl_PipeS_some (g cap k : Nat) (L : List MPipe) (bs : List Nat) (w : World) (hz : z_PipeS L ≤ 3000000) (hk : k + sumG cE_Pipe L ≤ 90000000) (h : OPipeS w (.slice (some ⟨g, 0, none⟩) L.length cap) (markedG cE_Pipe mE_Pipe L k) bs) :
  Calls Tryz.prog 84 #[.slice (some ⟨g, 0, none⟩) L.length cap, .int .i64 k] w fun e w' => e = .returned (.int .i64 ((k + sumG cE_Pipe L : Nat) : Int)) ∧ w = w' := by
 have HS : Hid (∀ (i : Nat) (p : MPipe), L[i]? = some p → z_Pipe p ≤ 3000000) := hd (fun i p hp => by have := sumW_mem z_Pipe _ i p hp; unfold z_PipeS wS at hz; omega)
 have hL : L.length ≤ 3000000 := by unfold z_PipeS wS at hz; omega
 have HO := hd (offG_all cE_Pipe L k)
 have HK := hd (fun i => offG_le cE_Pipe L k i)
 clear hz
 obtain ⟨KE, hKE⟩ : ∃ KE : Nat, k + sumG cE_Pipe L = KE := ⟨_, rfl⟩
 rw [hKE] at hk HO HK ⊢
 have HR := hd h
 have H0 := hd (offG_zero cE_Pipe L k)
 clear h hKE
 go_enter Tryz.func84, Tryz.ntmps84
 go_wp2_with fail
 go_loop [1, 5] (fun kv iv => ∃ (j K : Nat), j ≤ L.length ∧ kv = .int .i64 ((K : Nat) : Int) ∧ K ≤ KE ∧ Hid (K = offG cE_Pipe L k j) ∧ iv = .int .i64 j) (fun _ iv => L.length - (intOf iv).toNat)
 case atStart => exact ⟨0, k, Nat.zero_le _, rfl, by have h1 := HK.out 0; rw [H0.out] at h1; exact h1, hd H0.out.symm, rfl⟩
 case round =>
  clear H0
  obtain ⟨j, K, hj, rfl, hKE, hKo, rfl⟩ := hrel
  by_cases hlt : j < L.length
  ·obtain ⟨p, hl⟩ : ∃ p, L[j]? = some p := ⟨L[j], by simp [hlt]⟩
   obtain ⟨p', cs, b, hl', hP, ho⟩ := HR.out.out (i := j) (by rw [markedG_length]; exact hlt)
   rw [markedG_get cE_Pipe mE_Pipe L k j p hl, ← hKo.out] at hl'
   simp only [Option.some.injEq] at hl'
   subst hl'
   have hsm := HS.out j p hl
   unfold z_Pipe at hsm
   have HSt := hd (offG_step cE_Pipe L k j p hl)
   rw [← hKo.out] at HSt
   have hKn := HK.out (j + 1)
   rw [HSt.out] at hKn
   unfold cE_Pipe at hKn
   have hj0 : (0 : Int) ≤ j := by omega
   have hj1 : (j : Int) < L.length := by omega
   clear hl
   obtain ⟨v1, b1, rfl, h1, hbe⟩ := hP
   obtain ⟨x1, y1, rfl⟩ := gv_IntS.slice h1
   have c0 := ho.cell 0 _ rfl
   have c1 := ho.cell 1 _ rfl
   rw [Nat.add_zero] at c0
   unfold mE_Pipe cI at *
   simp only [ml_IntS] at *
   clear ho hbe
   have HM := hd (hl_IntS ((K : Int) + 1) (K + 1) (by go_num) _ p.fData _ w (by omega) h1)
   clear h1
   go_wp2_with (go_at_call 86; fail)
   refine HM.out.mono ?_
   rintro e w' ⟨rfl, rfl⟩
   clear HM
   obtain ⟨K1, hK1⟩ : ∃ K1 : Nat, (K + 1) + c_IntS p.fData = K1 := ⟨_, rfl⟩
   have HK1 := hd hK1
   have hl1 : K1 ≤ KE := by omega
   simp only [hK1]
   replace hKn : K1 + (0) ≤ KE := by omega
   have hng1 : decide ((K1 : Int) < 0) = false := by simp
   clear hK1
   go_wp2
   go_round
   case rel => exact ⟨j + 1, K1 + 0, by omega, by go_num, by omega, hd (by rw [HSt.out]; unfold cE_Pipe; have := HK1.out; omega), by go_num⟩
   case measure => simp [intOf]; omega
  ·obtain rfl : j = L.length := by omega
   go_wp2
   go_ret
   exact ⟨ret_int (by have := HO.out; have := hKo.out; omega), rfl⟩
theorem hl_PipeS (x : Int) (k : Nat) (hx : x = (k : Int)) (v : Value) (L : List MPipe) (b : List Nat) (w : World) (hz : z_PipeS L ≤ 3000000) (hk : k + c_PipeS L ≤ 90000000) (h : OPipeS w v (m_PipeS k L) b) :
  Calls Tryz.prog 84 #[v, .int .i64 x] w fun e w' => e = .returned (.int .i64 ((k + c_PipeS L : Nat) : Int)) ∧ w = w' := by
 subst hx
 unfold c_PipeS m_PipeS at *
 rcases h.cases with ⟨rfl, h0, rfl⟩ | ⟨g, c, rfl, hg, _⟩
 ·obtain rfl : L = [] := List.eq_nil_of_length_eq_zero (by rw [← markedG_length cE_Pipe mE_Pipe L k, h0]; rfl)
  refine (hl_PipeS_nil k w (by omega)).mono ?_
  rintro e w' ⟨rfl, rfl⟩
  exact ⟨by simp [sumG], rfl⟩
 ·rw [markedG_length] at h ⊢
  exact hl_PipeS_some g c k L b w hz hk h

theorem mk_FileS_nil (k : Nat) (w : World) (hk : k ≤ 90000000) :
  Calls Tryz.prog 80 #[.slice none 0 0, .int .i64 k] w fun e w' => e = .returned (.int .i64 (k : Int)) ∧ w = w' := by
 go_enter Tryz.func80, Tryz.ntmps80
 go_wp2_with fail
 go_loop [1, 5] (fun kv i => kv = .int .i64 (k : Int) ∧ i = .int .i64 0) (fun _ _ => 0)
 case atStart => exact ⟨rfl, rfl⟩
 case round =>
  obtain ⟨rfl, rfl⟩ := hrel
  go_wp2
  go_ret
  exact ⟨rfl, rfl⟩
set_option maxHeartbeats 4000000 in
theorem mk_FileS_some (g cap k : Nat) (L : List MFile) (bs : List Nat) (w : World) (hz : z_FileS L ≤ 3000000) (hk : k + sumG cE_File L ≤ 90000000) (hn : bs.Nodup) (h : OFileS w (.slice (some ⟨g, 0, none⟩) L.length cap) L bs) :
  Calls Tryz.prog 80 #[.slice (some ⟨g, 0, none⟩) L.length cap, .int .i64 k] w fun e w' => e = .returned (.int .i64 ((k + sumG cE_File L : Nat) : Int)) ∧ OFileS w' (.slice (some ⟨g, 0, none⟩) L.length cap) (markedG cE_File mE_File L k) bs ∧ Keep bs w w' := by
 have HS : Hid (∀ (i : Nat) (p : MFile), L[i]? = some p → z_File p ≤ 3000000) := hd (fun i p hp => by have := sumW_mem z_File _ i p hp; unfold z_FileS wS at hz; omega)
 have hL : L.length ≤ 3000000 := by unfold z_FileS wS at hz; omega
 have HO := hd (offG_all cE_File L k)
 have HK := hd (fun i => offG_le cE_File L k i)
 clear hz
 have HA := hd (partlyG_all cE_File mE_File L k)
 obtain ⟨KE, hKE⟩ : ∃ KE : Nat, k + sumG cE_File L = KE := ⟨_, rfl⟩
 rw [hKE] at hk HO HK ⊢
 have hst : OFileS w (.slice (some ⟨g, 0, none⟩) L.length cap) (partlyG cE_File mE_File L k 0) bs := by rw [partlyG_zero]; exact h
 have HST := hd hst
 have H0 := hd (offG_zero cE_File L k)
 clear h hKE hst
 go_enter Tryz.func80, Tryz.ntmps80
 go_wp2_with fail
 go_loopw [1, 5] (fun kv iv wr => ∃ (j K : Nat), j ≤ L.length ∧ kv = .int .i64 ((K : Nat) : Int) ∧ K ≤ KE ∧ Hid (K = offG cE_File L k j) ∧ iv = .int .i64 j ∧ Hid (OFileS wr (.slice (some ⟨g, 0, none⟩) L.length cap) (partlyG cE_File mE_File L k j) bs) ∧ Keep bs w wr) (fun _ iv _ => L.length - (intOf iv).toNat)
 case atStart => exact ⟨0, k, Nat.zero_le _, rfl, by have h1 := HK.out 0; rw [H0.out] at h1; exact h1, hd H0.out.symm, rfl, HST, Keep.refl _ _⟩
 case round =>
  clear HST H0
  obtain ⟨j, K, hj, rfl, hKE, hKo, rfl, hrow, hkeep⟩ := hrel
  by_cases hlt : j < L.length
  ·obtain ⟨p, cs, b, hl, hP, ho⟩ := hrow.out.out (i := j) (by rw [partlyG_length cE_File mE_File L k j hj]; exact hlt)
   rw [partlyG_get cE_File mE_File L k j hlt] at hl
   have hsm := HS.out j p hl
   unfold z_File at hsm
   have HSt := hd (offG_step cE_File L k j p hl)
   have HP := hd (partlyG_set cE_File mE_File L k j p hl)
   rw [← hKo.out] at HSt HP
   have hKn := HK.out (j + 1)
   rw [HSt.out] at hKn
   unfold cE_File at hKn
   have hj0 : (0 : Int) ≤ j := by omega
   have hj1 : (j : Int) < L.length := by omega
   have hgb := out_notin hn ho
   have hgi := out_in ho
   have hbn := out_nodup hn ho
   have hsub := ho.sub
   clear hl hrow
   obtain ⟨v1, b1, rfl, h1, hbe⟩ := hP
   obtain ⟨x1, y1, rfl⟩ := gv_IntS.slice h1
   rw [hbe] at ho hgb hbn hsub
   clear hbe
   have N1 := hbn
   have g1 : g ∉ b1 := hgb
   have c0 := ho.cell 0 _ rfl
   have f0 := ho.frozen (j * 2)
   have c1 := ho.cell 1 _ rfl
   rw [Nat.add_zero] at c0
   have hks := (Keep.set wr g (j * 2 + 0) (.int .i64 ((K : Int))) [g] (by simp))
   have ho_n := (ho.set good_File hn 0 (by omega) (.int .i64 ((K : Int))))
   clear ho
   replace h1 := gv_IntS.keep h1 hks (fun y hy hyg => by simp at hyg; subst hyg; exact g1 hy)
   replace hkeep := hkeep.then hks (fun y hy => by simp at hy; subst hy; exact .inl hgi)
   clear hks
   have HO1 := hd ho_n
   clear ho_n
   have HM := hd (mk_IntS ((K : Int) + 1) (K + 1) (by go_num) _ p.fData b1 _ (by omega) N1 h1)
   clear h1
   unfold MFile.cells cI at *
   go_wp2_with (go_at_call 71; fail)
   refine HM.out.mono ?_
   rintro e W1 ⟨rfl, h1, hk1⟩
   clear c0 f0 c1 HM
   have ho := HO1.out.keep good_File hn hk1
   clear HO1
   replace hkeep := hkeep.then hk1 (fun y hy => .inl (hsub y hy))
   clear hk1
   obtain ⟨K1, hK1⟩ : ∃ K1 : Nat, (K + 1) + c_IntS p.fData = K1 := ⟨_, rfl⟩
   have HK1 := hd hK1
   have hl1 : K1 ≤ KE := by omega
   rw [hK1]
   replace hKn : K1 + (0) ≤ KE := by omega
   clear hK1
   have HO1 := hd ho
   clear ho
   have H1 := hd h1
   clear h1
   go_wp2_with fail
   go_roundw
   case rel =>
    refine ⟨j + 1, K1 + 0, by omega, by go_num, by omega, hd ?_, by go_num, hd ?_, hkeep⟩
    ·rw [HSt.out]; unfold cE_File; have := HK1.out; omega
    ·rw [← HP.out]
     refine HO1.out.shut (x := mE_File K p) ⟨.slice x1 p.fData.length y1, b1, ?_, ?_, rfl⟩
     ·unfold mE_File MFile.cells cI
      simp only [HK1.out, ml_IntS]
      try rfl
     ·unfold mE_File
      simp only [HK1.out]
      exact H1.out
   case measure => simp [intOf]; omega
  ·obtain rfl : j = L.length := by omega
   go_wp2
   go_ret
   exact ⟨ret_int (by have := HO.out; have := hKo.out; omega), by rw [← HA.out]; exact hrow.out, hkeep⟩
theorem mk_FileS (x : Int) (k : Nat) (hx : x = (k : Int)) (v : Value) (L : List MFile) (b : List Nat) (w : World) (hz : z_FileS L ≤ 3000000) (hk : k + c_FileS L ≤ 90000000) (hn : b.Nodup) (h : OFileS w v L b) :
  Calls Tryz.prog 80 #[v, .int .i64 x] w fun e w' => e = .returned (.int .i64 ((k + c_FileS L : Nat) : Int)) ∧ OFileS w' v (m_FileS k L) b ∧ Keep b w w' := by
 subst hx
 unfold c_FileS m_FileS at *
 rcases h.cases with ⟨rfl, rfl, rfl⟩ | ⟨g, c, rfl, hg, _⟩
 ·refine (mk_FileS_nil k w (by omega)).mono ?_
  rintro e w' ⟨rfl, rfl⟩
  exact ⟨by simp [sumG], h, Keep.refl _ _⟩
 ·exact mk_FileS_some g c k L b w hz hk hn h
theorem hl_FileS_nil (k : Nat) (w : World) (hk : k ≤ 90000000) :
  Calls Tryz.prog 85 #[.slice none 0 0, .int .i64 k] w fun e w' => e = .returned (.int .i64 (k : Int)) ∧ w = w' := by
 go_enter Tryz.func85, Tryz.ntmps85
 go_wp2_with fail
 go_loop [1, 5] (fun kv i => kv = .int .i64 (k : Int) ∧ i = .int .i64 0) (fun _ _ => 0)
 case atStart => exact ⟨rfl, rfl⟩
 case round =>
  obtain ⟨rfl, rfl⟩ := hrel
  go_wp2
  go_ret
  exact ⟨rfl, rfl⟩
set_option maxHeartbeats 4000000 in
theorem hl_FileS_some (g cap k : Nat) (L : List MFile) (bs : List Nat) (w : World) (hz : z_FileS L ≤ 3000000) (hk : k + sumG cE_File L ≤ 90000000) (h : OFileS w (.slice (some ⟨g, 0, none⟩) L.length cap) (markedG cE_File mE_File L k) bs) :
  Calls Tryz.prog 85 #[.slice (some ⟨g, 0, none⟩) L.length cap, .int .i64 k] w fun e w' => e = .returned (.int .i64 ((k + sumG cE_File L : Nat) : Int)) ∧ w = w' := by
 have HS : Hid (∀ (i : Nat) (p : MFile), L[i]? = some p → z_File p ≤ 3000000) := hd (fun i p hp => by have := sumW_mem z_File _ i p hp; unfold z_FileS wS at hz; omega)
 have hL : L.length ≤ 3000000 := by unfold z_FileS wS at hz; omega
 have HO := hd (offG_all cE_File L k)
 have HK := hd (fun i => offG_le cE_File L k i)
 clear hz
 obtain ⟨KE, hKE⟩ : ∃ KE : Nat, k + sumG cE_File L = KE := ⟨_, rfl⟩
 rw [hKE] at hk HO HK ⊢
 have HR := hd h
 have H0 := hd (offG_zero cE_File L k)
 clear h hKE
 go_enter Tryz.func85, Tryz.ntmps85
 go_wp2_with fail
 go_loop [1, 5] (fun kv iv => ∃ (j K : Nat), j ≤ L.length ∧ kv = .int .i64 ((K : Nat) : Int) ∧ K ≤ KE ∧ Hid (K = offG cE_File L k j) ∧ iv = .int .i64 j) (fun _ iv => L.length - (intOf iv).toNat)
 case atStart => exact ⟨0, k, Nat.zero_le _, rfl, by have h1 := HK.out 0; rw [H0.out] at h1; exact h1, hd H0.out.symm, rfl⟩
 case round =>
  clear H0
  obtain ⟨j, K, hj, rfl, hKE, hKo, rfl⟩ := hrel
  by_cases hlt : j < L.length
  ·obtain ⟨p, hl⟩ : ∃ p, L[j]? = some p := ⟨L[j], by simp [hlt]⟩
   obtain ⟨p', cs, b, hl', hP, ho⟩ := HR.out.out (i := j) (by rw [markedG_length]; exact hlt)
   rw [markedG_get cE_File mE_File L k j p hl, ← hKo.out] at hl'
   simp only [Option.some.injEq] at hl'
   subst hl'
   have hsm := HS.out j p hl
   unfold z_File at hsm
   have HSt := hd (offG_step cE_File L k j p hl)
   rw [← hKo.out] at HSt
   have hKn := HK.out (j + 1)
   rw [HSt.out] at hKn
   unfold cE_File at hKn
   have hj0 : (0 : Int) ≤ j := by omega
   have hj1 : (j : Int) < L.length := by omega
   clear hl
   obtain ⟨v1, b1, rfl, h1, hbe⟩ := hP
   obtain ⟨x1, y1, rfl⟩ := gv_IntS.slice h1
   have c0 := ho.cell 0 _ rfl
   have c1 := ho.cell 1 _ rfl
   rw [Nat.add_zero] at c0
   unfold mE_File cI at *
   simp only [ml_IntS] at *
   clear ho hbe
   have HM := hd (hl_IntS ((K : Int) + 1) (K + 1) (by go_num) _ p.fData _ w (by omega) h1)
   clear h1
   go_wp2_with (go_at_call 86; fail)
   refine HM.out.mono ?_
   rintro e w' ⟨rfl, rfl⟩
   clear HM
   obtain ⟨K1, hK1⟩ : ∃ K1 : Nat, (K + 1) + c_IntS p.fData = K1 := ⟨_, rfl⟩
   have HK1 := hd hK1
   have hl1 : K1 ≤ KE := by omega
   simp only [hK1]
   replace hKn : K1 + (0) ≤ KE := by omega
   have hng1 : decide ((K1 : Int) < 0) = false := by simp
   clear hK1
   go_wp2
   go_round
   case rel => exact ⟨j + 1, K1 + 0, by omega, by go_num, by omega, hd (by rw [HSt.out]; unfold cE_File; have := HK1.out; omega), by go_num⟩
   case measure => simp [intOf]; omega
  ·obtain rfl : j = L.length := by omega
   go_wp2
   go_ret
   exact ⟨ret_int (by have := HO.out; have := hKo.out; omega), rfl⟩
theorem hl_FileS (x : Int) (k : Nat) (hx : x = (k : Int)) (v : Value) (L : List MFile) (b : List Nat) (w : World) (hz : z_FileS L ≤ 3000000) (hk : k + c_FileS L ≤ 90000000) (h : OFileS w v (m_FileS k L) b) :
  Calls Tryz.prog 85 #[v, .int .i64 x] w fun e w' => e = .returned (.int .i64 ((k + c_FileS L : Nat) : Int)) ∧ w = w' := by
 subst hx
 unfold c_FileS m_FileS at *
 rcases h.cases with ⟨rfl, h0, rfl⟩ | ⟨g, c, rfl, hg, _⟩
 ·obtain rfl : L = [] := List.eq_nil_of_length_eq_zero (by rw [← markedG_length cE_File mE_File L k, h0]; rfl)
  refine (hl_FileS_nil k w (by omega)).mono ?_
  rintro e w' ⟨rfl, rfl⟩
  exact ⟨by simp [sumG], rfl⟩
 ·rw [markedG_length] at h ⊢
  exact hl_FileS_some g c k L b w hz hk h

set_option maxHeartbeats 4000000 in
theorem mkL_Unix (x : Int) (k : Nat) (hx : x = (k : Int)) (p : MUnix) (x1 : Option Addr) (y1 : Nat) (b1 : List Nat) (x2 : Option Addr) (y2 : Nat) (b2 : List Nat) (x3 : Option Addr) (y3 : Nat) (b3 : List Nat) (x4 : Option Addr) (y4 : Nat) (b4 : List Nat) (x5 : Option Addr) (y5 : Nat) (b5 : List Nat) (x6 : Option Addr) (y6 : Nat) (b6 : List Nat) (x7 : Option Addr) (y7 : Nat) (b7 : List Nat) (w : World) (hz : z_Unix p ≤ 3000000) (hk : k + c_Unix p ≤ 90000000) (hn : (b1 ++ (b2 ++ (b3 ++ (b4 ++ (b5 ++ (b6 ++ b7)))))).Nodup) (h1 : OInsSS w (.slice x1 p.fProgs.length y1) p.fProgs b1) (h2 : OProcS w (.slice x2 p.fProcs.length y2) p.fProcs b2) (h3 : OOpenS w (.slice x3 p.fOpens.length y3) p.fOpens b3) (h4 : OPipeS w (.slice x4 p.fPipes.length y4) p.fPipes b4) (h5 : OFileS w (.slice x5 p.fFiles.length y5) p.fFiles b5) (h6 : OIntS w (.slice x6 p.fReady.length y6) p.fReady b6) (h7 : OIntS w (.slice x7 p.fOut.length y7) p.fOut b7) :
  Calls Tryz.prog 13 #[.agg #[.int .i64 p.fNext, .int .i64 p.fTick, .slice x1 p.fProgs.length y1, .slice x2 p.fProcs.length y2, .slice x3 p.fOpens.length y3, .slice x4 p.fPipes.length y4, .slice x5 p.fFiles.length y5, .slice x6 p.fReady.length y6, .slice x7 p.fOut.length y7], .int .i64 x] w fun e w' => e = .returned (.int .i64 ((k + c_Unix p : Nat) : Int)) ∧ OInsSS w' (.slice x1 p.fProgs.length y1) (m_Unix k p).fProgs b1 ∧ OProcS w' (.slice x2 p.fProcs.length y2) (m_Unix k p).fProcs b2 ∧ OOpenS w' (.slice x3 p.fOpens.length y3) (m_Unix k p).fOpens b3 ∧ OPipeS w' (.slice x4 p.fPipes.length y4) (m_Unix k p).fPipes b4 ∧ OFileS w' (.slice x5 p.fFiles.length y5) (m_Unix k p).fFiles b5 ∧ OIntS w' (.slice x6 p.fReady.length y6) (m_Unix k p).fReady b6 ∧ OIntS w' (.slice x7 p.fOut.length y7) (m_Unix k p).fOut b7 ∧ Keep (b1 ++ (b2 ++ (b3 ++ (b4 ++ (b5 ++ (b6 ++ b7)))))) w w' := by
 subst hx
 have g1 : w.heap.size ∉ b1 := fun h => by have := gv_InsSS.lt h1 _ h; omega
 have g2 : w.heap.size ∉ b2 := fun h => by have := gv_ProcS.lt h2 _ h; omega
 have g3 : w.heap.size ∉ b3 := fun h => by have := gv_OpenS.lt h3 _ h; omega
 have g4 : w.heap.size ∉ b4 := fun h => by have := gv_PipeS.lt h4 _ h; omega
 have g5 : w.heap.size ∉ b5 := fun h => by have := gv_FileS.lt h5 _ h; omega
 have g6 : w.heap.size ∉ b6 := fun h => by have := gv_IntS.lt h6 _ h; omega
 have g7 : w.heap.size ∉ b7 := fun h => by have := gv_IntS.lt h7 _ h; omega
 have hB := One.new w [.int .i64 p.fNext, .int .i64 p.fTick, .slice x1 p.fProgs.length y1, .slice x2 p.fProcs.length y2, .slice x3 p.fOpens.length y3, .slice x4 p.fPipes.length y4, .slice x5 p.fFiles.length y5, .slice x6 p.fReady.length y6, .slice x7 p.fOut.length y7] 40
 have hk0 : Keep (b1 ++ (b2 ++ (b3 ++ (b4 ++ (b5 ++ (b6 ++ b7)))))) w (w.alloc (.cells #[.int .i64 p.fNext, .int .i64 p.fTick, .slice x1 p.fProgs.length y1, .slice x2 p.fProcs.length y2, .slice x3 p.fOpens.length y3, .slice x4 p.fPipes.length y4, .slice x5 p.fFiles.length y5, .slice x6 p.fReady.length y6, .slice x7 p.fOut.length y7] 40)) := Keep.alloc _ _ _
 replace h1 := gv_InsSS.keep h1 (Keep.alloc w (.cells #[.int .i64 p.fNext, .int .i64 p.fTick, .slice x1 p.fProgs.length y1, .slice x2 p.fProcs.length y2, .slice x3 p.fOpens.length y3, .slice x4 p.fPipes.length y4, .slice x5 p.fFiles.length y5, .slice x6 p.fReady.length y6, .slice x7 p.fOut.length y7] 40) []) (by simp)
 replace h2 := gv_ProcS.keep h2 (Keep.alloc w (.cells #[.int .i64 p.fNext, .int .i64 p.fTick, .slice x1 p.fProgs.length y1, .slice x2 p.fProcs.length y2, .slice x3 p.fOpens.length y3, .slice x4 p.fPipes.length y4, .slice x5 p.fFiles.length y5, .slice x6 p.fReady.length y6, .slice x7 p.fOut.length y7] 40) []) (by simp)
 replace h3 := gv_OpenS.keep h3 (Keep.alloc w (.cells #[.int .i64 p.fNext, .int .i64 p.fTick, .slice x1 p.fProgs.length y1, .slice x2 p.fProcs.length y2, .slice x3 p.fOpens.length y3, .slice x4 p.fPipes.length y4, .slice x5 p.fFiles.length y5, .slice x6 p.fReady.length y6, .slice x7 p.fOut.length y7] 40) []) (by simp)
 replace h4 := gv_PipeS.keep h4 (Keep.alloc w (.cells #[.int .i64 p.fNext, .int .i64 p.fTick, .slice x1 p.fProgs.length y1, .slice x2 p.fProcs.length y2, .slice x3 p.fOpens.length y3, .slice x4 p.fPipes.length y4, .slice x5 p.fFiles.length y5, .slice x6 p.fReady.length y6, .slice x7 p.fOut.length y7] 40) []) (by simp)
 replace h5 := gv_FileS.keep h5 (Keep.alloc w (.cells #[.int .i64 p.fNext, .int .i64 p.fTick, .slice x1 p.fProgs.length y1, .slice x2 p.fProcs.length y2, .slice x3 p.fOpens.length y3, .slice x4 p.fPipes.length y4, .slice x5 p.fFiles.length y5, .slice x6 p.fReady.length y6, .slice x7 p.fOut.length y7] 40) []) (by simp)
 replace h6 := gv_IntS.keep h6 (Keep.alloc w (.cells #[.int .i64 p.fNext, .int .i64 p.fTick, .slice x1 p.fProgs.length y1, .slice x2 p.fProcs.length y2, .slice x3 p.fOpens.length y3, .slice x4 p.fPipes.length y4, .slice x5 p.fFiles.length y5, .slice x6 p.fReady.length y6, .slice x7 p.fOut.length y7] 40) []) (by simp)
 replace h7 := gv_IntS.keep h7 (Keep.alloc w (.cells #[.int .i64 p.fNext, .int .i64 p.fTick, .slice x1 p.fProgs.length y1, .slice x2 p.fProcs.length y2, .slice x3 p.fOpens.length y3, .slice x4 p.fPipes.length y4, .slice x5 p.fFiles.length y5, .slice x6 p.fReady.length y6, .slice x7 p.fOut.length y7] 40) []) (by simp)
 obtain ⟨W0, hW⟩ : ∃ W0, w.alloc (.cells #[.int .i64 p.fNext, .int .i64 p.fTick, .slice x1 p.fProgs.length y1, .slice x2 p.fProcs.length y2, .slice x3 p.fOpens.length y3, .slice x4 p.fPipes.length y4, .slice x5 p.fFiles.length y5, .slice x6 p.fReady.length y6, .slice x7 p.fOut.length y7] 40) = W0 := ⟨_, rfl⟩
 replace hB : One W0 w.heap.size [.int .i64 p.fNext, .int .i64 p.fTick, .slice x1 p.fProgs.length y1, .slice x2 p.fProcs.length y2, .slice x3 p.fOpens.length y3, .slice x4 p.fPipes.length y4, .slice x5 p.fFiles.length y5, .slice x6 p.fReady.length y6, .slice x7 p.fOut.length y7] := by rw [← hW]; exact hB
 rw [hW] at hk0 h1 h2 h3 h4 h5 h6 h7
 replace hW := hd hW
 obtain ⟨N1, N1r, E1⟩ := List.nodup_append.1 hn
 obtain ⟨N2, N2r, E2⟩ := List.nodup_append.1 N1r
 obtain ⟨N3, N3r, E3⟩ := List.nodup_append.1 N2r
 obtain ⟨N4, N4r, E4⟩ := List.nodup_append.1 N3r
 obtain ⟨N5, N5r, E5⟩ := List.nodup_append.1 N4r
 obtain ⟨N6, N7, E6⟩ := List.nodup_append.1 N5r
 unfold z_Unix at hz
 unfold c_Unix at hk ⊢
 clear hn
 go_enter Tryz.func13, Tryz.ntmps13
 go_wp2_with (go_at_call 69; fail)
 rw [hW.out]
 clear hW
 refine (mk_InsSS _ k rfl _ p.fProgs b1 W0 (by omega) (by omega) N1 h1).mono ?_
 rintro e W1 ⟨rfl, h1', hk1⟩
 replace h2 := gv_ProcS.keep h2 hk1 (fun y hy hy1 => E1 y hy1 y (by simp [hy]) rfl)
 replace h3 := gv_OpenS.keep h3 hk1 (fun y hy hy1 => E1 y hy1 y (by simp [hy]) rfl)
 replace h4 := gv_PipeS.keep h4 hk1 (fun y hy hy1 => E1 y hy1 y (by simp [hy]) rfl)
 replace h5 := gv_FileS.keep h5 hk1 (fun y hy hy1 => E1 y hy1 y (by simp [hy]) rfl)
 replace h6 := gv_IntS.keep h6 hk1 (fun y hy hy1 => E1 y hy1 y (by simp [hy]) rfl)
 replace h7 := gv_IntS.keep h7 hk1 (fun y hy hy1 => E1 y hy1 y (by simp [hy]) rfl)
 replace h1 := h1'
 clear h1'
 replace hB := hB.keep hk1 g1
 replace hk0 := hk0.then hk1 (fun y hy => .inl (by simp only [List.mem_append] at *; simp [hy]))
 clear hk1
 obtain ⟨K1, hK1⟩ : ∃ K1 : Nat, k + c_InsSS p.fProgs = K1 := ⟨_, rfl⟩
 have HK1 := hd hK1
 have hl1 : K1 ≤ 90000000 := by omega
 rw [hK1]
 replace hk : K1 + (c_ProcS p.fProcs + c_OpenS p.fOpens + c_PipeS p.fPipes + c_FileS p.fFiles + c_IntS p.fReady + c_IntS p.fOut) ≤ 90000000 := by omega
 clear hK1
 have a3_ := hB.a 3 _ rfl
 go_wp2_with (go_at_call 77; fail)
 clear a3_
 refine (mk_ProcS _ K1 rfl _ p.fProcs b2 W1 (by omega) (by omega) N2 h2).mono ?_
 rintro e W2 ⟨rfl, h2', hk1⟩
 replace h1 := gv_InsSS.keep h1 hk1 (fun y hy hy1 => E1 y hy y (by simp [hy1]) rfl)
 replace h3 := gv_OpenS.keep h3 hk1 (fun y hy hy1 => E2 y hy1 y (by simp [hy]) rfl)
 replace h4 := gv_PipeS.keep h4 hk1 (fun y hy hy1 => E2 y hy1 y (by simp [hy]) rfl)
 replace h5 := gv_FileS.keep h5 hk1 (fun y hy hy1 => E2 y hy1 y (by simp [hy]) rfl)
 replace h6 := gv_IntS.keep h6 hk1 (fun y hy hy1 => E2 y hy1 y (by simp [hy]) rfl)
 replace h7 := gv_IntS.keep h7 hk1 (fun y hy hy1 => E2 y hy1 y (by simp [hy]) rfl)
 replace h2 := h2'
 clear h2'
 replace hB := hB.keep hk1 g2
 replace hk0 := hk0.then hk1 (fun y hy => .inl (by simp only [List.mem_append] at *; simp [hy]))
 clear hk1
 obtain ⟨K2, hK2⟩ : ∃ K2 : Nat, K1 + c_ProcS p.fProcs = K2 := ⟨_, rfl⟩
 have HK2 := hd hK2
 have hl2 : K2 ≤ 90000000 := by omega
 rw [hK2]
 replace hk : K2 + (c_OpenS p.fOpens + c_PipeS p.fPipes + c_FileS p.fFiles + c_IntS p.fReady + c_IntS p.fOut) ≤ 90000000 := by omega
 clear hK2
 have a4_ := hB.a 4 _ rfl
 go_wp2_with (go_at_call 78; fail)
 clear a4_
 refine (mk_OpenS _ K2 rfl _ p.fOpens b3 W2 (by omega) (by omega) N3 h3).mono ?_
 rintro e W3 ⟨rfl, h3', hk1⟩
 replace h1 := gv_InsSS.keep h1 hk1 (fun y hy hy1 => E1 y hy y (by simp [hy1]) rfl)
 replace h2 := gv_ProcS.keep h2 hk1 (fun y hy hy1 => E2 y hy y (by simp [hy1]) rfl)
 replace h4 := gv_PipeS.keep h4 hk1 (fun y hy hy1 => E3 y hy1 y (by simp [hy]) rfl)
 replace h5 := gv_FileS.keep h5 hk1 (fun y hy hy1 => E3 y hy1 y (by simp [hy]) rfl)
 replace h6 := gv_IntS.keep h6 hk1 (fun y hy hy1 => E3 y hy1 y (by simp [hy]) rfl)
 replace h7 := gv_IntS.keep h7 hk1 (fun y hy hy1 => E3 y hy1 y (by simp [hy]) rfl)
 replace h3 := h3'
 clear h3'
 replace hB := hB.keep hk1 g3
 replace hk0 := hk0.then hk1 (fun y hy => .inl (by simp only [List.mem_append] at *; simp [hy]))
 clear hk1
 obtain ⟨K3, hK3⟩ : ∃ K3 : Nat, K2 + c_OpenS p.fOpens = K3 := ⟨_, rfl⟩
 have HK3 := hd hK3
 have hl3 : K3 ≤ 90000000 := by omega
 rw [hK3]
 replace hk : K3 + (c_PipeS p.fPipes + c_FileS p.fFiles + c_IntS p.fReady + c_IntS p.fOut) ≤ 90000000 := by omega
 clear hK3
 have a5_ := hB.a 5 _ rfl
 go_wp2_with (go_at_call 79; fail)
 clear a5_
 refine (mk_PipeS _ K3 rfl _ p.fPipes b4 W3 (by omega) (by omega) N4 h4).mono ?_
 rintro e W4 ⟨rfl, h4', hk1⟩
 replace h1 := gv_InsSS.keep h1 hk1 (fun y hy hy1 => E1 y hy y (by simp [hy1]) rfl)
 replace h2 := gv_ProcS.keep h2 hk1 (fun y hy hy1 => E2 y hy y (by simp [hy1]) rfl)
 replace h3 := gv_OpenS.keep h3 hk1 (fun y hy hy1 => E3 y hy y (by simp [hy1]) rfl)
 replace h5 := gv_FileS.keep h5 hk1 (fun y hy hy1 => E4 y hy1 y (by simp [hy]) rfl)
 replace h6 := gv_IntS.keep h6 hk1 (fun y hy hy1 => E4 y hy1 y (by simp [hy]) rfl)
 replace h7 := gv_IntS.keep h7 hk1 (fun y hy hy1 => E4 y hy1 y (by simp [hy]) rfl)
 replace h4 := h4'
 clear h4'
 replace hB := hB.keep hk1 g4
 replace hk0 := hk0.then hk1 (fun y hy => .inl (by simp only [List.mem_append] at *; simp [hy]))
 clear hk1
 obtain ⟨K4, hK4⟩ : ∃ K4 : Nat, K3 + c_PipeS p.fPipes = K4 := ⟨_, rfl⟩
 have HK4 := hd hK4
 have hl4 : K4 ≤ 90000000 := by omega
 rw [hK4]
 replace hk : K4 + (c_FileS p.fFiles + c_IntS p.fReady + c_IntS p.fOut) ≤ 90000000 := by omega
 clear hK4
 have a6_ := hB.a 6 _ rfl
 go_wp2_with (go_at_call 80; fail)
 clear a6_
 refine (mk_FileS _ K4 rfl _ p.fFiles b5 W4 (by omega) (by omega) N5 h5).mono ?_
 rintro e W5 ⟨rfl, h5', hk1⟩
 replace h1 := gv_InsSS.keep h1 hk1 (fun y hy hy1 => E1 y hy y (by simp [hy1]) rfl)
 replace h2 := gv_ProcS.keep h2 hk1 (fun y hy hy1 => E2 y hy y (by simp [hy1]) rfl)
 replace h3 := gv_OpenS.keep h3 hk1 (fun y hy hy1 => E3 y hy y (by simp [hy1]) rfl)
 replace h4 := gv_PipeS.keep h4 hk1 (fun y hy hy1 => E4 y hy y (by simp [hy1]) rfl)
 replace h6 := gv_IntS.keep h6 hk1 (fun y hy hy1 => E5 y hy1 y (by simp [hy]) rfl)
 replace h7 := gv_IntS.keep h7 hk1 (fun y hy hy1 => E5 y hy1 y (by simp [hy]) rfl)
 replace h5 := h5'
 clear h5'
 replace hB := hB.keep hk1 g5
 replace hk0 := hk0.then hk1 (fun y hy => .inl (by simp only [List.mem_append] at *; simp [hy]))
 clear hk1
 obtain ⟨K5, hK5⟩ : ∃ K5 : Nat, K4 + c_FileS p.fFiles = K5 := ⟨_, rfl⟩
 have HK5 := hd hK5
 have hl5 : K5 ≤ 90000000 := by omega
 rw [hK5]
 replace hk : K5 + (c_IntS p.fReady + c_IntS p.fOut) ≤ 90000000 := by omega
 clear hK5
 have a7_ := hB.a 7 _ rfl
 go_wp2_with (go_at_call 71; fail)
 clear a7_
 refine (mk_IntS _ K5 rfl _ p.fReady b6 W5 (by omega) N6 h6).mono ?_
 rintro e W6 ⟨rfl, h6', hk1⟩
 replace h1 := gv_InsSS.keep h1 hk1 (fun y hy hy1 => E1 y hy y (by simp [hy1]) rfl)
 replace h2 := gv_ProcS.keep h2 hk1 (fun y hy hy1 => E2 y hy y (by simp [hy1]) rfl)
 replace h3 := gv_OpenS.keep h3 hk1 (fun y hy hy1 => E3 y hy y (by simp [hy1]) rfl)
 replace h4 := gv_PipeS.keep h4 hk1 (fun y hy hy1 => E4 y hy y (by simp [hy1]) rfl)
 replace h5 := gv_FileS.keep h5 hk1 (fun y hy hy1 => E5 y hy y (by simp [hy1]) rfl)
 replace h7 := gv_IntS.keep h7 hk1 (fun y hy hy1 => E6 y hy1 y (by simp [hy]) rfl)
 replace h6 := h6'
 clear h6'
 replace hB := hB.keep hk1 g6
 replace hk0 := hk0.then hk1 (fun y hy => .inl (by simp only [List.mem_append] at *; simp [hy]))
 clear hk1
 obtain ⟨K6, hK6⟩ : ∃ K6 : Nat, K5 + c_IntS p.fReady = K6 := ⟨_, rfl⟩
 have HK6 := hd hK6
 have hl6 : K6 ≤ 90000000 := by omega
 rw [hK6]
 replace hk : K6 + (c_IntS p.fOut) ≤ 90000000 := by omega
 clear hK6
 have a8_ := hB.a 8 _ rfl
 go_wp2_with (go_at_call 71; fail)
 clear a8_
 refine (mk_IntS _ K6 rfl _ p.fOut b7 W6 (by omega) N7 h7).mono ?_
 rintro e W7 ⟨rfl, h7', hk1⟩
 replace h1 := gv_InsSS.keep h1 hk1 (fun y hy hy1 => E1 y hy y (by simp [hy1]) rfl)
 replace h2 := gv_ProcS.keep h2 hk1 (fun y hy hy1 => E2 y hy y (by simp [hy1]) rfl)
 replace h3 := gv_OpenS.keep h3 hk1 (fun y hy hy1 => E3 y hy y (by simp [hy1]) rfl)
 replace h4 := gv_PipeS.keep h4 hk1 (fun y hy hy1 => E4 y hy y (by simp [hy1]) rfl)
 replace h5 := gv_FileS.keep h5 hk1 (fun y hy hy1 => E5 y hy y (by simp [hy1]) rfl)
 replace h6 := gv_IntS.keep h6 hk1 (fun y hy hy1 => E6 y hy y (by simp [hy1]) rfl)
 replace h7 := h7'
 clear h7'
 replace hB := hB.keep hk1 g7
 replace hk0 := hk0.then hk1 (fun y hy => .inl (by simp only [List.mem_append] at *; simp [hy]))
 clear hk1
 obtain ⟨K7, hK7⟩ : ∃ K7 : Nat, K6 + c_IntS p.fOut = K7 := ⟨_, rfl⟩
 have HK7 := hd hK7
 have hl7 : K7 ≤ 90000000 := by omega
 rw [hK7]
 replace hk : K7 + (0) ≤ 90000000 := by omega
 clear hK7
 go_wp2
 go_ret
 refine ⟨ret_int (by have := HK1.out; have := HK2.out; have := HK3.out; have := HK4.out; have := HK5.out; have := HK6.out; have := HK7.out; omega), ?_, ?_, ?_, ?_, ?_, ?_, ?_, hk0⟩
 ·unfold m_Unix
  simp only [HK1.out, HK2.out, HK3.out, HK4.out, HK5.out, HK6.out, HK7.out]
  exact h1
 ·unfold m_Unix
  simp only [HK1.out, HK2.out, HK3.out, HK4.out, HK5.out, HK6.out, HK7.out]
  exact h2
 ·unfold m_Unix
  simp only [HK1.out, HK2.out, HK3.out, HK4.out, HK5.out, HK6.out, HK7.out]
  exact h3
 ·unfold m_Unix
  simp only [HK1.out, HK2.out, HK3.out, HK4.out, HK5.out, HK6.out, HK7.out]
  exact h4
 ·unfold m_Unix
  simp only [HK1.out, HK2.out, HK3.out, HK4.out, HK5.out, HK6.out, HK7.out]
  exact h5
 ·unfold m_Unix
  simp only [HK1.out, HK2.out, HK3.out, HK4.out, HK5.out, HK6.out, HK7.out]
  exact h6
 ·unfold m_Unix
  simp only [HK1.out, HK2.out, HK3.out, HK4.out, HK5.out, HK6.out, HK7.out]
  exact h7
theorem mk_Unix (x : Int) (k : Nat) (hx : x = (k : Int)) (p : MUnix) (cs : List Value) (b : List Nat) (w : World) (hz : z_Unix p ≤ 3000000) (hk : k + c_Unix p ≤ 90000000) (hn : b.Nodup) (h : PUnix w cs p b) :
  Calls Tryz.prog 13 #[.agg cs.toArray, .int .i64 x] w fun e w' => e = .returned (.int .i64 ((k + c_Unix p : Nat) : Int)) ∧ PUnix w' cs (m_Unix k p) b ∧ Keep b w w' := by
 obtain ⟨v1, v2, v3, v4, v5, v6, v7, b1, b2, b3, b4, b5, b6, b7, rfl, h1, h2, h3, h4, h5, h6, h7, hbe⟩ := h
 obtain ⟨x1, y1, rfl⟩ := gv_InsSS.slice h1
 obtain ⟨x2, y2, rfl⟩ := gv_ProcS.slice h2
 obtain ⟨x3, y3, rfl⟩ := gv_OpenS.slice h3
 obtain ⟨x4, y4, rfl⟩ := gv_PipeS.slice h4
 obtain ⟨x5, y5, rfl⟩ := gv_FileS.slice h5
 obtain ⟨x6, y6, rfl⟩ := gv_IntS.slice h6
 obtain ⟨x7, y7, rfl⟩ := gv_IntS.slice h7
 rw [hbe] at hn ⊢
 refine (mkL_Unix x k hx p x1 y1 b1 x2 y2 b2 x3 y3 b3 x4 y4 b4 x5 y5 b5 x6 y6 b6 x7 y7 b7 w hz hk hn h1 h2 h3 h4 h5 h6 h7).mono ?_
 rintro e w' ⟨rfl, h1', h2', h3', h4', h5', h6', h7', hk1⟩
 exact ⟨rfl, ⟨.slice x1 p.fProgs.length y1, .slice x2 p.fProcs.length y2, .slice x3 p.fOpens.length y3, .slice x4 p.fPipes.length y4, .slice x5 p.fFiles.length y5, .slice x6 p.fReady.length y6, .slice x7 p.fOut.length y7, b1, b2, b3, b4, b5, b6, b7, rfl, h1', h2', h3', h4', h5', h6', h7', rfl⟩, hk1⟩
set_option maxHeartbeats 4000000 in
theorem hl_Unix (x : Int) (k : Nat) (hx : x = (k : Int)) (p : MUnix) (cs : List Value) (b : List Nat) (w : World) (hz : z_Unix p ≤ 3000000) (hk : k + c_Unix p ≤ 90000000) (h : PUnix w cs (m_Unix k p) b) :
  Calls Tryz.prog 14 #[.agg cs.toArray, .int .i64 x] w fun e w' => e = .returned (.int .i64 ((k + c_Unix p : Nat) : Int)) ∧ Below w.heap.size w w' := by
 subst hx
 obtain ⟨v1, v2, v3, v4, v5, v6, v7, b1, b2, b3, b4, b5, b6, b7, rfl, h1, h2, h3, h4, h5, h6, h7, hbe⟩ := h
 obtain ⟨x1, y1, rfl⟩ := gv_InsSS.slice h1
 obtain ⟨x2, y2, rfl⟩ := gv_ProcS.slice h2
 obtain ⟨x3, y3, rfl⟩ := gv_OpenS.slice h3
 obtain ⟨x4, y4, rfl⟩ := gv_PipeS.slice h4
 obtain ⟨x5, y5, rfl⟩ := gv_FileS.slice h5
 obtain ⟨x6, y6, rfl⟩ := gv_IntS.slice h6
 obtain ⟨x7, y7, rfl⟩ := gv_IntS.slice h7
 unfold m_Unix at h1 h2 h3 h4 h5 h6 h7
 simp only at h1 h2 h3 h4 h5 h6 h7
 unfold z_Unix at hz
 unfold c_Unix at hk ⊢
 unfold m_Unix MUnix.cells cI
 simp only [ml_FileS, ml_InsSS, ml_IntS, ml_OpenS, ml_PipeS, ml_ProcS] at h1 h2 h3 h4 h5 h6 h7 ⊢
 have hb0 : Below w.heap.size w (w.alloc (.cells #[.int .i64 p.fNext, .int .i64 p.fTick, .slice x1 p.fProgs.length y1, .slice x2 p.fProcs.length y2, .slice x3 p.fOpens.length y3, .slice x4 p.fPipes.length y4, .slice x5 p.fFiles.length y5, .slice x6 p.fReady.length y6, .slice x7 p.fOut.length y7] 40)) := (Below.refl _ w).alloc (Nat.le_refl _) _
 have hB := One.new w [.int .i64 p.fNext, .int .i64 p.fTick, .slice x1 p.fProgs.length y1, .slice x2 p.fProcs.length y2, .slice x3 p.fOpens.length y3, .slice x4 p.fPipes.length y4, .slice x5 p.fFiles.length y5, .slice x6 p.fReady.length y6, .slice x7 p.fOut.length y7] 40
 replace h1 := gv_InsSS.below h1 hb0
 replace h2 := gv_ProcS.below h2 hb0
 replace h3 := gv_OpenS.below h3 hb0
 replace h4 := gv_PipeS.below h4 hb0
 replace h5 := gv_FileS.below h5 hb0
 replace h6 := gv_IntS.below h6 hb0
 replace h7 := gv_IntS.below h7 hb0
 obtain ⟨W0, hW⟩ : ∃ W0, w.alloc (.cells #[.int .i64 p.fNext, .int .i64 p.fTick, .slice x1 p.fProgs.length y1, .slice x2 p.fProcs.length y2, .slice x3 p.fOpens.length y3, .slice x4 p.fPipes.length y4, .slice x5 p.fFiles.length y5, .slice x6 p.fReady.length y6, .slice x7 p.fOut.length y7] 40) = W0 := ⟨_, rfl⟩
 replace hB : One W0 w.heap.size [.int .i64 p.fNext, .int .i64 p.fTick, .slice x1 p.fProgs.length y1, .slice x2 p.fProcs.length y2, .slice x3 p.fOpens.length y3, .slice x4 p.fPipes.length y4, .slice x5 p.fFiles.length y5, .slice x6 p.fReady.length y6, .slice x7 p.fOut.length y7] := by rw [← hW]; exact hB
 rw [hW] at hb0 h1 h2 h3 h4 h5 h6 h7
 replace hW := hd hW
 go_enter Tryz.func14, Tryz.ntmps14
 have HM := hd (hl_InsSS _ k rfl _ p.fProgs _ W0 (by omega) (by omega) h1)
 clear h1
 go_wp2_with (go_at_call 81; fail)
 rw [hW.out]
 clear hW
 refine HM.out.mono ?_
 rintro e w' ⟨rfl, rfl⟩
 clear HM
 obtain ⟨K1, hK1⟩ : ∃ K1 : Nat, k + c_InsSS p.fProgs = K1 := ⟨_, rfl⟩
 have HK1 := hd hK1
 have hng1 : decide ((K1 : Int) < 0) = false := by simp
 simp only [hK1] at h2 h3 h4 h5 h6 h7 ⊢
 replace hk : K1 + (c_ProcS p.fProcs + c_OpenS p.fOpens + c_PipeS p.fPipes + c_FileS p.fFiles + c_IntS p.fReady + c_IntS p.fOut) ≤ 90000000 := by omega
 clear hK1
 have a3_ := hB.a 3 _ rfl
 have HM := hd (hl_ProcS _ K1 rfl _ p.fProcs _ W0 (by omega) (by omega) h2)
 clear h2
 go_wp2_with (go_at_call 82; fail)
 clear a3_
 refine HM.out.mono ?_
 rintro e w' ⟨rfl, rfl⟩
 clear HM
 obtain ⟨K2, hK2⟩ : ∃ K2 : Nat, K1 + c_ProcS p.fProcs = K2 := ⟨_, rfl⟩
 have HK2 := hd hK2
 have hng2 : decide ((K2 : Int) < 0) = false := by simp
 simp only [hK2] at h3 h4 h5 h6 h7 ⊢
 replace hk : K2 + (c_OpenS p.fOpens + c_PipeS p.fPipes + c_FileS p.fFiles + c_IntS p.fReady + c_IntS p.fOut) ≤ 90000000 := by omega
 clear hK2
 have a4_ := hB.a 4 _ rfl
 have HM := hd (hl_OpenS _ K2 rfl _ p.fOpens _ W0 (by omega) (by omega) h3)
 clear h3
 go_wp2_with (go_at_call 83; fail)
 clear a4_
 refine HM.out.mono ?_
 rintro e w' ⟨rfl, rfl⟩
 clear HM
 obtain ⟨K3, hK3⟩ : ∃ K3 : Nat, K2 + c_OpenS p.fOpens = K3 := ⟨_, rfl⟩
 have HK3 := hd hK3
 have hng3 : decide ((K3 : Int) < 0) = false := by simp
 simp only [hK3] at h4 h5 h6 h7 ⊢
 replace hk : K3 + (c_PipeS p.fPipes + c_FileS p.fFiles + c_IntS p.fReady + c_IntS p.fOut) ≤ 90000000 := by omega
 clear hK3
 have a5_ := hB.a 5 _ rfl
 have HM := hd (hl_PipeS _ K3 rfl _ p.fPipes _ W0 (by omega) (by omega) h4)
 clear h4
 go_wp2_with (go_at_call 84; fail)
 clear a5_
 refine HM.out.mono ?_
 rintro e w' ⟨rfl, rfl⟩
 clear HM
 obtain ⟨K4, hK4⟩ : ∃ K4 : Nat, K3 + c_PipeS p.fPipes = K4 := ⟨_, rfl⟩
 have HK4 := hd hK4
 have hng4 : decide ((K4 : Int) < 0) = false := by simp
 simp only [hK4] at h5 h6 h7 ⊢
 replace hk : K4 + (c_FileS p.fFiles + c_IntS p.fReady + c_IntS p.fOut) ≤ 90000000 := by omega
 clear hK4
 have a6_ := hB.a 6 _ rfl
 have HM := hd (hl_FileS _ K4 rfl _ p.fFiles _ W0 (by omega) (by omega) h5)
 clear h5
 go_wp2_with (go_at_call 85; fail)
 clear a6_
 refine HM.out.mono ?_
 rintro e w' ⟨rfl, rfl⟩
 clear HM
 obtain ⟨K5, hK5⟩ : ∃ K5 : Nat, K4 + c_FileS p.fFiles = K5 := ⟨_, rfl⟩
 have HK5 := hd hK5
 have hng5 : decide ((K5 : Int) < 0) = false := by simp
 simp only [hK5] at h6 h7 ⊢
 replace hk : K5 + (c_IntS p.fReady + c_IntS p.fOut) ≤ 90000000 := by omega
 clear hK5
 have a7_ := hB.a 7 _ rfl
 have HM := hd (hl_IntS _ K5 rfl _ p.fReady _ W0 (by omega) h6)
 clear h6
 go_wp2_with (go_at_call 86; fail)
 clear a7_
 refine HM.out.mono ?_
 rintro e w' ⟨rfl, rfl⟩
 clear HM
 obtain ⟨K6, hK6⟩ : ∃ K6 : Nat, K5 + c_IntS p.fReady = K6 := ⟨_, rfl⟩
 have HK6 := hd hK6
 have hng6 : decide ((K6 : Int) < 0) = false := by simp
 simp only [hK6] at h7 ⊢
 replace hk : K6 + (c_IntS p.fOut) ≤ 90000000 := by omega
 clear hK6
 have a8_ := hB.a 8 _ rfl
 have HM := hd (hl_IntS _ K6 rfl _ p.fOut _ W0 (by omega) h7)
 clear h7
 go_wp2_with (go_at_call 86; fail)
 clear a8_
 refine HM.out.mono ?_
 rintro e w' ⟨rfl, rfl⟩
 clear HM
 obtain ⟨K7, hK7⟩ : ∃ K7 : Nat, K6 + c_IntS p.fOut = K7 := ⟨_, rfl⟩
 have HK7 := hd hK7
 have hng7 : decide ((K7 : Int) < 0) = false := by simp
 simp only [hK7]
 replace hk : K7 + (0) ≤ 90000000 := by omega
 clear hK7
 go_wp2
 go_ret
 exact ⟨ret_int (by have := HK1.out; have := HK2.out; have := HK3.out; have := HK4.out; have := HK5.out; have := HK6.out; have := HK7.out; omega), hb0⟩

end Go.Proofs.YtoeolfegmklbaaaGreat.TyK
