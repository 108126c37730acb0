/- What spec's l5Exec answers at a right program, a right Cpu of its own and a right memory. Condition: none. -/
import Derived.Test.YtcncanfelcjdpaaExecA
import Derived.Test.YtcncanfelcjdpaaExecB
import Derived.Test.YtcncanfelcjdpaaExecC
import Derived.Test.YtcncanfelcjdpaaExecD
import Derived.Test.YtcncanfelcjdpaaShowA
import Derived.Deep.RegionWith
import Derived.BigRegion
namespace Go.Proofs.Ytcncanfelcjdpaa.ExecS
open Go.RowKit Go.Deep Num InsC InsO ProgC ProgD IntC CpuC CpuS ReadB ExecA ExecB ExecC ExecD
set_option maxRecDepth 100000
set_option linter.unusedVariables false
set_option linter.unusedSimpArgs false

/-- What a right instruction is, kind by kind. -/
theorem kinds (q : Q) (h : Q.ok q = true) :
    (q.o = 1 ∧ 0 ≤ q.a ∧ q.a ≤ 3) ∨ (q.o = 2 ∧ (0 ≤ q.a ∧ q.a ≤ 3) ∧ (0 ≤ q.b ∧ q.b ≤ 3) ∧ 0 ≤ q.c ∧ q.c ≤ 3) ∨ (q.o = 3 ∧ (0 ≤ q.a ∧ q.a ≤ 3) ∧ (0 ≤ q.b ∧ q.b ≤ 3) ∧ 0 ≤ q.c ∧ q.c ≤ 3) ∨
    (q.o = 4 ∧ (0 ≤ q.a ∧ q.a ≤ 3) ∧ 0 ≤ q.b ∧ q.b ≤ 3) ∨ (q.o = 5 ∧ (0 ≤ q.a ∧ q.a ≤ 3) ∧ 0 ≤ q.b ∧ q.b ≤ 3) ∨ (q.o = 6 ∧ 0 ≤ q.a ∧ q.a ≤ 40) ∨ (q.o = 7 ∧ (0 ≤ q.a ∧ q.a ≤ 3) ∧ 0 ≤ q.b ∧ q.b ≤ 40) ∨ q.o = 8 := by
  obtain ⟨o, a, b, c⟩ := q
  unfold Q.ok okB at h
  simp only [inB, nil0] at h ⊢
  repeat' split at h
  all_goals simp_all <;> omega
set_option maxHeartbeats 1000000 in
theorem end_nil (B g cap pc : Nat) (ma : Option Addr) (mn mc : Nat) (r : List Int) (w : World) (hG : Gr w B g cap r) :
    Calls Try.prog 40 #[.slice none 0 0, cpu pc (.slice (some ⟨g, 0, none⟩) 4 cap), .slice ma mn mc] w fun e w' =>
      e = .returned (.tuple #[cpu pc (.slice (some ⟨g, 0, none⟩) 4 cap), did 2 (-1) 0 0]) ∧ w'.ownsRow B 3 1 (.slice (some ⟨g, 0, none⟩) 4 cap) 4 (r.map ic) ∧ w.grownBy w' (some g) := by
  have hnge : decide ((0 : Int) ≤ pc) = true := by simp
  have HG := hd hG
  clear hG
  unfold cpu did
  go_enter Try.func40, Try.ntmps40
  go_wp2_with (go_at_call 58; refine (fault_any _ _ _ _ _).mono ?_; rintro e w' ⟨rfl, rfl⟩)
  refine bodyPost_ret (v := .tuple #[.agg #[.int .i64 (pc : Int), (.slice (some ⟨g, 0, none⟩) 4 cap)], .agg #[.int .i64 2, .int .i64 (-1), .int .i64 0, .int .i64 0]]) (by simp [results, Try.results40, go_sem]) rfl ⟨rfl, ?_, ?_⟩
  · have h := HG.out.own
    repeat' first | exact h | (apply World.ownsRow.drew) | (refine World.ownsRow.alloc ?_ _)
  · have h := HG.out.low
    repeat' first | exact World.grownBy.refl _ _ | (apply gr_drew) | (refine gr_alloc ?_ _)

/-- What l5Exec answers. -/
def L5Post (x : X) (B g cap : Nat) (w : World) (e : Ending) (w' : World) : Prop :=
  e = .returned (.tuple #[cpu x.1 (.slice (some ⟨g, 0, none⟩) 4 cap), did x.2.2.1 x.2.2.2.1 x.2.2.2.2.1 x.2.2.2.2.2]) ∧ w'.ownsRow B 3 1 (.slice (some ⟨g, 0, none⟩) 4 cap) 4 (x.2.1.map ic) ∧ w.grownBy w' (some g)
theorem cast (n : Nat) : (((n + 1 : Nat)) : Int) = (n : Int) + 1 := by omega

theorem l5_any (B g cap pc : Nat) (pv mv : Value) (p : List Q) (r mem : List Int) (w : World) (hG : Gr w B g cap r) (hL : Lies w pv p) (hM : Ints w mv mem) (hok : progB p = true) (hr : wordsB r = true) (hm : mem.length ≤ 64) :
    Calls Try.prog 40 #[pv, cpu pc (.slice (some ⟨g, 0, none⟩) 4 cap), mv] w fun e w' => L5Post (stepX p pc r mem) B g cap w e w' := by
  obtain ⟨h40, hall⟩ := ShowA.prog_all hok
  have hrw : ∀ x ∈ r, -1000000 ≤ x ∧ x ≤ 1000000 := fun x hx => inB_yes (List.all_eq_true.1 hr x hx)
  obtain ⟨ma, mn, mc, rfl, hmn⟩ : ∃ a n c, mv = .slice a n c ∧ n = mem.length := by
    rcases hM with ⟨rfl, rfl⟩ | ⟨mg, c, rfl, _⟩
    · exact ⟨_, _, _, rfl, rfl⟩
    · exact ⟨_, _, _, rfl, rfl⟩
  unfold stepX
  rw [Int.toNat_natCast]
  rcases hL with ⟨rfl, rfl⟩ | ⟨pg, pcap, rfl, hpg, hpc⟩
  · exact end_nil B g cap pc ma mn mc r w hG
  · cases hq : p[pc]? with
    | none =>
      have : p.length ≤ pc := by simpa using hq
      exact end_any B g cap pg p.length pcap pc ma mn mc r w hG this
    | some q =>
      have hqo := hall pc q hq
      obtain ⟨d0, d1, d2, d3⟩ := hpc pc q hq
      have hA : At w pg p.length pc q := ⟨(List.getElem?_eq_some_iff.1 hq).1, h40, d0, d1, d2, d3⟩
      obtain ⟨o, a, b, c⟩ := q
      simp only
      have hkq := kinds _ hqo
      dsimp only at hkq
      rcases hkq with ⟨rfl, ha⟩ | ⟨rfl, ha, hb, hc⟩ | ⟨rfl, ha, hb, hc⟩ | ⟨rfl, ha, hb⟩ | ⟨rfl, ha, hb⟩ | ⟨rfl, ha⟩ | ⟨rfl, ha, hb⟩ | rfl
      · obtain ⟨an, rfl⟩ := Int.eq_ofNat_of_zero_le ha.1
        simpa [L5Post, ins1, cast] using set_any B g cap pg p.length pcap pc ma mn mc an b c r w hG hA (by omega)
      · obtain ⟨an, rfl⟩ := Int.eq_ofNat_of_zero_le ha.1
        obtain ⟨bn, rfl⟩ := Int.eq_ofNat_of_zero_le hb.1
        obtain ⟨cn, rfl⟩ := Int.eq_ofNat_of_zero_le hc.1
        cases hw : wordB (reg r bn + reg r cn)
        · simpa [L5Post, ins1, cast, hw, fault] using add_no B g cap pg p.length pcap pc ma mn mc an bn cn r w hG hA (by omega) (by omega) (by omega) hrw hw
        · simpa [L5Post, ins1, cast, hw] using add_any B g cap pg p.length pcap pc ma mn mc an bn cn r w hG hA (by omega) (by omega) (by omega) hrw hw
      · obtain ⟨an, rfl⟩ := Int.eq_ofNat_of_zero_le ha.1
        obtain ⟨bn, rfl⟩ := Int.eq_ofNat_of_zero_le hb.1
        obtain ⟨cn, rfl⟩ := Int.eq_ofNat_of_zero_le hc.1
        cases hw : wordB (reg r bn - reg r cn)
        · simpa [L5Post, ins1, cast, hw, fault] using sub_no B g cap pg p.length pcap pc ma mn mc an bn cn r w hG hA (by omega) (by omega) (by omega) hrw hw
        · simpa [L5Post, ins1, cast, hw] using sub_any B g cap pg p.length pcap pc ma mn mc an bn cn r w hG hA (by omega) (by omega) (by omega) hrw hw
      · obtain ⟨an, rfl⟩ := Int.eq_ofNat_of_zero_le ha.1
        obtain ⟨bn, rfl⟩ := Int.eq_ofNat_of_zero_le hb.1
        by_cases h0 : 0 ≤ reg r bn
        · by_cases h1 : reg r bn < mem.length
          · obtain ⟨mi, hmi⟩ := Int.eq_ofNat_of_zero_le h0
            rcases hM with ⟨e, rfl⟩ | ⟨mg, mc', e, hmg, hmc⟩
            · simp at h1; omega
            · simp at e
              obtain ⟨rfl, rfl, rfl⟩ := e
              obtain ⟨y, hy⟩ : ∃ y, mem[mi]? = some y := ⟨mem[mi]'(by omega), by simp [show mi < mem.length by omega]⟩
              have hyr : reg mem (reg r bn) = y := by rw [hmi]; simp [reg, List.getD, hy]
              simpa [L5Post, ins1, cast, h0, h1, hyr] using load_any B g cap pg p.length pcap pc mg mem.length mc an bn c mi y r w hG hA (by omega) (by omega) hmi (by omega) hm (hmc mi y hy)
          · have := load_high B g cap pg p.length pcap pc ma mn mc an bn c r w hG hA (by omega) (by omega) h0 (by omega)
            simpa [L5Post, ins1, cast, h0, h1, fault] using this
        · have := load_low B g cap pg p.length pcap pc ma mn mc an bn c r w hG hA (by omega) (by omega) (by omega)
          simpa [L5Post, ins1, cast, h0, fault] using this
      · obtain ⟨an, rfl⟩ := Int.eq_ofNat_of_zero_le ha.1
        obtain ⟨bn, rfl⟩ := Int.eq_ofNat_of_zero_le hb.1
        by_cases h0 : 0 ≤ reg r bn
        · by_cases h1 : reg r bn < mem.length
          · obtain ⟨mi, hmi⟩ := Int.eq_ofNat_of_zero_le h0
            rcases hM with ⟨e, rfl⟩ | ⟨mg, mc', e, hmg, hmc⟩
            · simp at h1; omega
            · simp at e
              obtain ⟨rfl, rfl, rfl⟩ := e
              obtain ⟨y, hy⟩ : ∃ y, mem[mi]? = some y := ⟨mem[mi]'(by omega), by simp [show mi < mem.length by omega]⟩
              have := store_any B g cap pg p.length pcap pc mg mem.length mc an bn c mi y r w hG hA (by omega) (by omega) hmi (by omega) hm (hmc mi y hy)
              rw [← hmi] at this
              simpa [L5Post, ins1, cast, h0, h1] using this
          · have := store_high B g cap pg p.length pcap pc ma mn mc an bn c r w hG hA (by omega) (by omega) h0 (by omega)
            simpa [L5Post, ins1, cast, h0, h1, fault] using this
        · have := store_low B g cap pg p.length pcap pc ma mn mc an bn c r w hG hA (by omega) (by omega) (by omega)
          simpa [L5Post, ins1, cast, h0, fault] using this
      · obtain ⟨an, rfl⟩ := Int.eq_ofNat_of_zero_le ha.1
        simpa [L5Post, ins1, cast] using jump_any B g cap pg p.length pcap pc ma mn mc an b c r w hG hA (by omega)
      · obtain ⟨an, rfl⟩ := Int.eq_ofNat_of_zero_le ha.1
        obtain ⟨bn, rfl⟩ := Int.eq_ofNat_of_zero_le hb.1
        by_cases hz : reg r an = 0
        · simpa [L5Post, ins1, cast, hz] using zero_yes B g cap pg p.length pcap pc ma mn mc an bn c r w hG hA (by omega) hz
        · simpa [L5Post, ins1, cast, hz] using zero_no B g cap pg p.length pcap pc ma mn mc an bn c r w hG hA (by omega) hz
      · simpa [L5Post, ins1, cast] using sys_any B g cap pg p.length pcap pc ma mn mc a b c r w hG hA

end Go.Proofs.Ytcncanfelcjdpaa.ExecS
