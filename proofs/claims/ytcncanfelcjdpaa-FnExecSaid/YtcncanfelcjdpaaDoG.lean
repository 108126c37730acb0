/- What impl's core does by one right instruction. Condition: none. -/
import Derived.Test.YtcncanfelcjdpaaDoC
import Derived.Test.YtcncanfelcjdpaaDoD
import Derived.Test.YtcncanfelcjdpaaDoE
import Derived.Test.YtcncanfelcjdpaaDoF
import Derived.Test.YtcncanfelcjdpaaExecS
namespace Go.Proofs.Ytcncanfelcjdpaa.DoG
open Go.RowKit Go.Deep Num InsC InsO ProgC ProgD IntC CpuC CpuS CoreI
set_option maxRecDepth 100000
set_option linter.unusedVariables false
set_option linter.unusedSimpArgs false

/-- What 'do' answers. -/
def DoPost (x : X) (w : World) (e : Ending) (w' : World) : Prop :=
  e = .returned (.tuple #[core x.1 x.2.1, did x.2.2.1 x.2.2.2.1 x.2.2.2.2.1 x.2.2.2.2.2]) ∧ Below w.heap.size w w'
theorem cast (n : Nat) : (((n + 1 : Nat)) : Int) = (n : Int) + 1 := by omega
theorem in_no {x : Int} {m : Nat} (h : ¬ (0 ≤ x ∧ x < (m : Int))) : inB x 0 ((m : Int) - 1) = false := by
  unfold inB
  rw [decide_eq_false]; omega

set_option maxHeartbeats 1000000 in
theorem do_any (pc : Nat) (q : Q) (mv : Value) (r mem : List Int) (w : World) (h4 : r.length = 4) (hpc : pc ≤ 40) (hq : Q.ok q = true) (hr : wordsB r = true) (hM : Ints w mv mem) (hm : mem.length ≤ 64) :
    Calls Try.prog 37 #[core pc r, ins q.o q.a q.b q.c, mv] w fun e w' => DoPost (ins1 q pc r mem) w e w' := by
  have hrw : ∀ x ∈ r, -1000000 ≤ x ∧ x ≤ 1000000 := fun x hx => inB_yes (List.all_eq_true.1 hr x hx)
  obtain ⟨ma, mn, mc, rfl, hmn⟩ : ∃ a n c, mv = .slice a n c ∧ n = mem.length := by
    rcases hM with ⟨rfl, rfl⟩ | ⟨mg, c, rfl, _⟩
    · exact ⟨_, _, _, rfl, rfl⟩
    · exact ⟨_, _, _, rfl, rfl⟩
  obtain ⟨o, a, b, c⟩ := q
  have hkq := ExecS.kinds _ hq
  dsimp only at hkq ⊢
  rcases hkq with ⟨rfl, ha⟩ | ⟨rfl, ha, hb, hc⟩ | ⟨rfl, ha, hb, hc⟩ | ⟨rfl, ha, hb⟩ | ⟨rfl, ha, hb⟩ | ⟨rfl, ha⟩ | ⟨rfl, ha, hb⟩ | rfl
  · obtain ⟨an, rfl⟩ := Int.eq_ofNat_of_zero_le ha.1
    simpa [DoPost, ins1, cast] using DoA.set_any pc an b c ma mn mc r w h4 hpc (by omega)
  · obtain ⟨an, rfl⟩ := Int.eq_ofNat_of_zero_le ha.1
    obtain ⟨bn, rfl⟩ := Int.eq_ofNat_of_zero_le hb.1
    obtain ⟨cn, rfl⟩ := Int.eq_ofNat_of_zero_le hc.1
    cases hw : wordB (reg r bn + reg r cn)
    · simpa [DoPost, ins1, cast, hw, fault] using DoB.add_no pc an bn cn ma mn mc r w h4 hpc (by omega) (by omega) (by omega) hrw hw
    · simpa [DoPost, ins1, cast, hw] using DoB.add_any pc an bn cn ma mn mc r w h4 hpc (by omega) (by omega) (by omega) hrw hw
  · obtain ⟨an, rfl⟩ := Int.eq_ofNat_of_zero_le ha.1
    obtain ⟨bn, rfl⟩ := Int.eq_ofNat_of_zero_le hb.1
    obtain ⟨cn, rfl⟩ := Int.eq_ofNat_of_zero_le hc.1
    cases hw : wordB (reg r bn - reg r cn)
    · simpa [DoPost, ins1, cast, hw, fault] using DoC.sub_no pc an bn cn ma mn mc r w h4 hpc (by omega) (by omega) (by omega) hrw hw
    · simpa [DoPost, ins1, cast, hw] using DoC.sub_any pc an bn cn ma mn mc r w h4 hpc (by omega) (by omega) (by omega) hrw hw
  · obtain ⟨an, rfl⟩ := Int.eq_ofNat_of_zero_le ha.1
    obtain ⟨bn, rfl⟩ := Int.eq_ofNat_of_zero_le hb.1
    by_cases h0 : 0 ≤ reg r bn ∧ reg r bn < mem.length
    · obtain ⟨mi, hmi⟩ := Int.eq_ofNat_of_zero_le h0.1
      rcases hM with ⟨e, rfl⟩ | ⟨mg, mc', e, hmg, hmc⟩
      · simp at h0; omega
      · simp at e
        obtain ⟨rfl, rfl, rfl⟩ := e
        obtain ⟨y, hy⟩ : ∃ y, mem[mi]? = some y := ⟨mem[mi]'(by omega), by simp [show mi < mem.length by omega]⟩
        have hry : reg mem (reg r bn) = y := by rw [hmi]; simp [reg, List.getD, hy]
        have := DoD.load_any pc an bn mi c y mg mem.length mc r w h4 hpc (by omega) (by omega) hmi (by omega) hm (hmc mi y hy)
        simpa [DoPost, ins1, cast, h0, hry] using this
    · have := DoD.load_no pc an bn c ma mn mc r w h4 hpc (by omega) (by omega) (by rw [hmn]; exact in_no h0) (by omega)
      simpa [DoPost, ins1, cast, h0, fault] using this
  · obtain ⟨an, rfl⟩ := Int.eq_ofNat_of_zero_le ha.1
    obtain ⟨bn, rfl⟩ := Int.eq_ofNat_of_zero_le hb.1
    by_cases h0 : 0 ≤ reg r bn ∧ reg r bn < mem.length
    · obtain ⟨mi, hmi⟩ := Int.eq_ofNat_of_zero_le h0.1
      rcases hM with ⟨e, rfl⟩ | ⟨mg, mc', e, hmg, hmc⟩
      · simp at h0; omega
      · simp at e
        obtain ⟨rfl, rfl, rfl⟩ := e
        obtain ⟨y, hy⟩ : ∃ y, mem[mi]? = some y := ⟨mem[mi]'(by omega), by simp [show mi < mem.length by omega]⟩
        have := DoE.store_any pc an bn mi c y mg mem.length mc r w h4 hpc (by omega) (by omega) hmi (by omega) hm (hmc mi y hy)
        rw [← hmi] at this
        simpa [DoPost, ins1, cast, h0] using this
    · have := DoE.store_no pc an bn c ma mn mc r w h4 hpc (by omega) (by omega) (by rw [hmn]; exact in_no h0) (by omega)
      simpa [DoPost, ins1, cast, h0, fault] using this
  · obtain ⟨an, rfl⟩ := Int.eq_ofNat_of_zero_le ha.1
    simpa [DoPost, ins1, cast] using DoF.jump_any pc an b c ma mn mc r w h4 hpc
  · obtain ⟨an, rfl⟩ := Int.eq_ofNat_of_zero_le ha.1
    obtain ⟨bn, rfl⟩ := Int.eq_ofNat_of_zero_le hb.1
    by_cases hz : reg r an = 0
    · simpa [DoPost, ins1, cast, hz] using DoF.zero_yes pc an bn c ma mn mc r w h4 hpc (by omega) hz
    · simpa [DoPost, ins1, cast, hz] using DoF.zero_no pc an bn c ma mn mc r w h4 hpc (by omega) hz
  · simpa [DoPost, ins1, cast] using DoF.sys_any pc a b c ma mn mc r w h4 hpc

end Go.Proofs.Ytcncanfelcjdpaa.DoG
