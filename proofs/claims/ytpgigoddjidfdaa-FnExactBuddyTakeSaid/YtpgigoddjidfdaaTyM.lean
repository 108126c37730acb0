/- What the laws hand over and get back: as numbers and lists, how it lies in memory, how it comes in. Condition: none. -/
import Derived.Test.YtpgigoddjidfdaaTyA
namespace Go.Proofs.Ytpgigoddjidfdaa.TyM
open Go.RowKit Go.ChangeShapes Go.WideShapes Go.Deep Num RowC TyA 
set_option maxRecDepth 100000
set_option linter.unusedVariables false
set_option linter.unusedSimpArgs false

abbrev OIntS := SO 3 cI
theorem gv_IntS : GoodV OIntS := good_so _ _
abbrev FIntS := ArgRow 1 AI
theorem sv_IntS {w w' : World} {v : Value} {x : List Int} (h : FIntS w v x) (hb : Below w.heap.size w w') : FIntS w' v x := ArgRow.below (E := AI) @stay_ai h hb

abbrev OIntSS := Row 35 1 (PE OIntS)
theorem gv_IntSS : GoodV OIntSS := gvRow _ _ (good_pe gv_IntS)
abbrev FIntSS := ArgRow 1 (AE FIntS)
theorem sv_IntSS {w w' : World} {v : Value} {x : List (List Int)} (h : FIntSS w v x) (hb : Below w.heap.size w w') : FIntSS w' v x := ArgRow.below (E := (AE FIntS)) (stay_ae (F := FIntS) (fun _ _ _ _ h hb => sv_IntS h hb)) h hb

structure MBuddy where
  fFree : List (List Int)
  deriving Inhabited, DecidableEq
def MBuddy.cells (x : MBuddy) (v1 : Value) : List Value := [v1]
def PBuddy (w : World) (cs : List Value) (x : MBuddy) (b : List Nat) : Prop := ∃ v1 b1, cs = x.cells v1 ∧ OIntSS w v1 x.fFree b1 ∧ b = b1
theorem good_Buddy : RowC.Good PBuddy := by
  refine ⟨?_, ?_⟩
  · rintro w w' cs x b bs ⟨v1, b1, rfl, h1, rfl⟩ hk hd
    exact ⟨v1, _, rfl, gv_IntSS.keep h1 hk (fun y hy => hd y hy), rfl⟩
  · rintro w cs x b ⟨v1, b1, rfl, h1, rfl⟩ y hy
    exact gv_IntSS.lt h1 y hy
def RBuddy (x : MBuddy) : Prop := True
def ABuddy (w : World) (cs : List Value) (x : MBuddy) : Prop := ∃ v1, cs = x.cells v1 ∧ FIntSS w v1 x.fFree ∧ RBuddy x
theorem stay_Buddy : Stays ABuddy := fun ⟨v1, h0, h1, hr⟩ hb => ⟨v1, h0, sv_IntSS h1 hb, hr⟩

def zStr (s : ByteArray) : Nat := s.size
def z_IntS (l : List Int) : Nat := l.length
def z_IntSS (l : List (List Int)) : Nat := wS z_IntS l
def z_Buddy (x : MBuddy) : Nat := z_IntSS x.fFree
def G_IntS (l : List Int) : Prop := ∀ (i : Nat) (x : Int), l[i]? = some x → Rng x
theorem rg_IntS {w : World} {v : Value} {l : List Int} (h : FIntS w v l) : G_IntS l := ArgRow.each h (fun cs x h => h.2)
def G_IntSS (l : List (List Int)) : Prop := ∀ (i : Nat) (x : List Int), l[i]? = some x → G_IntS x
theorem rg_IntSS {w : World} {v : Value} {l : List (List Int)} (h : FIntSS w v l) : G_IntSS l := ArgRow.each h (fun cs x h => by obtain ⟨v, _, h⟩ := h; exact rg_IntS h)
def G_Buddy (x : MBuddy) : Prop := RBuddy x ∧ G_IntSS x.fFree
theorem rg_Buddy {w : World} {cs : List Value} {x : MBuddy} (h : ABuddy w cs x) : G_Buddy x := by
  obtain ⟨v1, _, h1, hr⟩ := h
  exact ⟨hr, rg_IntSS h1⟩
section
variable {H : Type} {enc : TypeId × Value → H} {w : World} {base : Nat} {spare : Nat → Bool} {held : Bool}
theorem c_IntS : Try.prog.cellsOf 35 = 1 := by kernel_rfl
theorem c_Int : Try.prog.cellsOf 3 = 1 := by kernel_rfl
theorem c_IntSS : Try.prog.cellsOf 24 = 1 := by kernel_rfl
theorem c_Buddy : Try.prog.cellsOf 37 = 1 := by kernel_rfl
theorem trod_Int (fuel : Nat) (cs : List Value) (x : DataW H × List MemPlace) (h : DataW.trod enc Try.prog w base spare held fuel 3 cs = some x) : ∃ a, AI w cs a := by
  obtain ⟨n, e, _, hw⟩ := DataW.trod_int Try.underlying3 h
  exact ⟨n, e, rng_wf hw⟩
theorem arg_IntS {fuel : Nat} {u : Value} {x : DataW H × List MemPlace} (h : DataW.trod enc Try.prog w base spare held fuel 35 [u] = some x) : ∃ l, FIntS w u l := arg_row Try.underlying35 c_Int trod_Int h
theorem trod_IntS (fuel : Nat) (cs : List Value) (x : DataW H × List MemPlace) (h : DataW.trod enc Try.prog w base spare held fuel 35 cs = some x) : ∃ a, AE FIntS w cs a := by
  obtain ⟨u, rfl⟩ := trod_one Try.underlying35 h
  obtain ⟨l, hl⟩ := arg_IntS h
  exact ⟨l, u, rfl, hl⟩
theorem arg_IntSS {fuel : Nat} {u : Value} {x : DataW H × List MemPlace} (h : DataW.trod enc Try.prog w base spare held fuel 24 [u] = some x) : ∃ l, FIntSS w u l := arg_row Try.underlying24 c_IntS trod_IntS h
theorem trod_IntSS (fuel : Nat) (cs : List Value) (x : DataW H × List MemPlace) (h : DataW.trod enc Try.prog w base spare held fuel 24 cs = some x) : ∃ a, AE FIntSS w cs a := by
  obtain ⟨u, rfl⟩ := trod_one Try.underlying24 h
  obtain ⟨l, hl⟩ := arg_IntSS h
  exact ⟨l, u, rfl, hl⟩
set_option maxHeartbeats 1000000 in
theorem trod_Buddy (fuel : Nat) (cs : List Value) (x : DataW H × List MemPlace) (h : DataW.trod enc Try.prog w base spare held fuel 37 cs = some x) : ∃ o, ABuddy w cs o := by
  obtain ⟨xs, n, _, _, hl, hxl, hf⟩ := DataW.trod_struct Try.underlying37 h
  rw [c_Buddy] at hl
  match xs, hxl, cs, hl with
  | [y0], _, [u0], _ =>
    have g0 := hf 0 _ rfl
    simp [c_IntSS] at g0
    obtain ⟨m0, q0⟩ := arg_IntSS g0
    exact ⟨⟨m0⟩, u0, rfl, q0, trivial⟩
def IsIntS (w : World) (v : Value) : Prop := ∃ l, FIntS w v l
theorem open_IntS {v : Value} {d : DataW H} {ps : List MemPlace} {b0 : Nat} {r : Reach} (hval : Value.okWide Try.prog w r b0 35 v) (h : DataW.Trod enc Try.prog w base spare held 35 v d ps) : IsIntS w v := by
  obtain ⟨a, len, cap, rfl⟩ := okWide_slice Try.underlying35 hval
  obtain ⟨fuel, hf⟩ := h
  exact arg_IntS (by simpa [Value.cells] using hf)
def IsIntSS (w : World) (v : Value) : Prop := ∃ l, FIntSS w v l
theorem open_IntSS {v : Value} {d : DataW H} {ps : List MemPlace} {b0 : Nat} {r : Reach} (hval : Value.okWide Try.prog w r b0 24 v) (h : DataW.Trod enc Try.prog w base spare held 24 v d ps) : IsIntSS w v := by
  obtain ⟨a, len, cap, rfl⟩ := okWide_slice Try.underlying24 hval
  obtain ⟨fuel, hf⟩ := h
  exact arg_IntSS (by simpa [Value.cells] using hf)
def IsBuddy (w : World) (v : Value) : Prop := ∃ x cs, v = .agg cs.toArray ∧ ABuddy w cs x
theorem open_Buddy {v : Value} {d : DataW H} {ps : List MemPlace} {b0 : Nat} {r : Reach} (hval : Value.okWide Try.prog w r b0 37 v) (h : DataW.Trod enc Try.prog w base spare held 37 v d ps) : IsBuddy w v := by
  obtain ⟨cs, rfl, hcs⟩ := okWide_struct Try.underlying37 hval
  obtain ⟨fuel, hf⟩ := h
  obtain ⟨x, hx⟩ := trod_Buddy fuel _ _ hf
  exact ⟨x, cs.toList, by simp, by simpa [Value.cells] using hx⟩
end

end Go.Proofs.Ytpgigoddjidfdaa.TyM
