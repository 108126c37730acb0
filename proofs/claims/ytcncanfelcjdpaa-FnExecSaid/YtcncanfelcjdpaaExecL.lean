/- What impl's Exec answers. Condition: none. -/
import Derived.Test.YtcncanfelcjdpaaExecK
namespace Go.Proofs.Ytcncanfelcjdpaa.ExecL
open Go.RowKit Go.Deep Num InsC InsO ProgC ProgD IntC CpuC CpuS CoreI DoG ExecT ExecI ExecJ ExecK
set_option maxRecDepth 100000
set_option linter.unusedVariables false
set_option linter.unusedSimpArgs false

theorem four_some {w : World} {v : Value} {r : List Int} (h : Ints w v r) (h4 : r.length = 4) : ∃ g cap, v = .slice (some ⟨g, 0, none⟩) 4 cap ∧ g < w.heap.size ∧ ∀ i (n : Int), r[i]? = some n → w.cell? ⟨g, i, none⟩ = some (.int .i64 n) := by
  rcases h with ⟨rfl, rfl⟩ | ⟨g, cap, rfl, hg, hc⟩
  · simp at h4
  · exact ⟨g, cap, by rw [h4], hg, hc⟩
theorem impl_any (pv v mv : Value) (p : List Q) (pc : Int) (r mem : List Int) (w : World) (hL : Lies w pv p) (hC : Ints w v r) (hM : Ints w mv mem) (hp : p.length ≤ 1048576) (hrl : r.length ≤ 1048576) (hml : mem.length ≤ 1048576) :
    Calls Try.prog 8 #[pv, cpu pc v, mv] w fun e w' => ExecPost (execX p pc r mem) w e w' ∧ Below w.heap.size w w' := by
  cases hok : okX p pc r mem
  · exact no_any pv v mv p pc r mem w hL hC hM hp hrl hml hok
  · obtain ⟨h1, h2, h3, h5, h6, h4, h7⟩ := ok_parts hok
    obtain ⟨h40, hall⟩ := ShowA.prog_all h1
    obtain ⟨n, rfl⟩ := Int.eq_ofNat_of_zero_le h6.1
    obtain ⟨g, cap, rfl, hg, hc⟩ := four_some hC h4
    have hmb : CpuI.memB mem = true := by simp [CpuI.memB, h3, h5]
    rw [exec_yes hok]
    unfold stepX
    rw [Int.toNat_natCast]
    cases hq : p[n]? with
    | none => exact end_yes pv mv g cap p n r mem w hL hg hc hM h1 h2 hmb h40 h3 h4 (by omega) (by simpa using hq)
    | some q => exact step_yes pv mv g cap p n r mem w hL hg hc hM h1 h2 hmb h40 h3 h4 (by omega) q hq (hall n q hq) h7

end Go.Proofs.Ytcncanfelcjdpaa.ExecL
