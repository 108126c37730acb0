/- What spec's Exec answers. Condition: none. -/
import Derived.Test.YtcncanfelcjdpaaExecU
namespace Go.Proofs.Ytcncanfelcjdpaa.ExecV
open Go.RowKit Go.Deep Num InsC InsO ProgC ProgD IntC CpuC CpuS ExecT ExecJ ExecL
set_option maxRecDepth 100000
set_option linter.unusedVariables false
set_option linter.unusedSimpArgs false

theorem spec_any (pv v mv : Value) (p : List Q) (pc : Int) (r mem : List Int) (w : World) (hL : Lies w pv p) (hC : Ints w v r) (hM : Ints w mv mem) (hp : p.length ≤ 1048576) (hrl : r.length ≤ 1048576) (hml : mem.length ≤ 1048576) :
    Calls Try.prog 9 #[pv, cpu pc v, mv] w fun e w' => ExecPost (execX p pc r mem) w e w' ∧ Below w.heap.size w w' := by
  cases hok : okX p pc r mem
  · exact spec_no pv v mv p pc r mem w hL hC hM hp hrl hml hok
  · obtain ⟨h1, h2, h3, h5, h6, h4, h7⟩ := ok_parts hok
    obtain ⟨h40, hall⟩ := ShowA.prog_all h1
    obtain ⟨n, rfl⟩ := Int.eq_ofNat_of_zero_le h6.1
    obtain ⟨g, cap, rfl, hg, hc⟩ := four_some hC h4
    rw [exec_yes hok]
    exact ExecU.yes_any pv mv g cap p n r mem w hL hg hc hM h1 h2 h5 h40 h3 h4 h7

end Go.Proofs.Ytcncanfelcjdpaa.ExecV
