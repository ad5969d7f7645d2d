/- The contract of the document's Refs. -/
import Derived.Test.YtmbkhkijmfogcaaDoorNh
namespace Go.Proofs.YtmbkhkijmfogcaaDoor
open Go.RowKit

set_option maxRecDepth 100000 in
set_option maxHeartbeats 4000000 in
theorem drefs_ok (o : Ob) (w : World) : Calls Tryd.prog 17 #[obv o] w (NewR (refs o) w) := by
  obtain ⟨w1, hw1⟩ : ∃ w1, w.alloc (.cells (obc o) 31) = w1 := ⟨_, rfl⟩
  have hb1 : Bk w1 w.heap.size 31 (obc o) := by rw [← hw1]; exact Bk.new _ _ _
  have hB : Below w.heap.size w w1 := by rw [← hw1]; exact (Below.refl _ w).alloc (Nat.le_refl _) _
  have HW1 := Lib.hid hw1
  have HB := Lib.hid (And.intro hb1 hB)
  unfold obv
  unfold obc at HW1 ⊢
  clear hw1 hb1 hB
  go_enter Tryd.func17, Tryd.ntmps17
  go_upto_region 1 with fail
  rw [HW1.out]
  go_wp2
  go_loopw [3, 4] (fun q i wr => ∃ (k : Nat) (pre : List Nat) (p : Option Addr) (c : Nat), k ≤ 4 ∧ i = .int .i64 k ∧ q = .slice p pre.length c ∧ Hid (wr.ownsRow w1.heap.size 24 2 (.slice p pre.length c) (rls o pre).length (rcls (rls o pre))) ∧ Hid (pre ++ selF o k = selF o 0) ∧ Hid (Below w1.heap.size w1 wr)) (fun _ i _ => 4 - (intOf i).toNat)
  case atStart => exact ⟨0, [], none, 0, by omega, rfl, rfl, World.ownsRow_nil _ _ _ _, rfl, Below.refl _ _⟩
  case round =>
    obtain ⟨k, pre, p, c, hk, rfl, rfl, HO, HP, HBW⟩ := hrel
    have hbk := HB.out.1.below HBW.out
    have hB2 := Lib.hid (bel2 HB.out.2 HBW.out)
    have HL : Hid (pre.length ≤ 4) := by
      have h1 := selF_len o
      have h2 := congrArg List.length HP.out
      simp only [List.length_append] at h2
      unfold Hid
      omega
    by_cases hlt : k < 4
    · have s0 := (hbk.cell (1 + k * 2)).trans (obc_s o k hlt)
      have s1 := (hbk.cell (1 + k * 2 + 1)).trans (obc_g o k hlt)
      have hlb := hbk.lt
      have hp2 := HP.out
      rw [selF_step o hlt] at hp2
      clear hbk
      by_cases hz : o.fld k = (0, 0)
      · rw [noneB_iff.2 hz, if_pos rfl, List.nil_append] at hp2
        have HQ := Lib.hid hp2
        rw [hz] at s0 s1
        simp only at s0 s1
        clear hp2 hz
        go_wp2
        go_roundw
        case rel => exact ⟨k + 1, pre, p, c, by omega, by go_num, rfl, HO.out, HQ.out, HBW.out⟩
        case measure => simp [intOf]; omega
      · rw [noneB_no hz, if_neg (by decide)] at hp2
        have HQ : Hid ((pre ++ [k]) ++ selF o (k + 1) = selF o 0) := by unfold Hid; rw [← hp2]; simp
        have HSN := Lib.hid (rls_snoc o pre k)
        obtain ⟨⟨s, g⟩, hsg⟩ : ∃ u : Rf, o.fld k = u := ⟨_, rfl⟩
        rw [hsg] at s0 s1 hz HSN
        simp only at s0 s1
        have hz2 : s ≠ 0 ∨ (s = 0 ∧ g ≠ 0) := by
          by_cases e : s = 0
          · exact .inr ⟨e, fun e2 => hz (by rw [e, e2])⟩
          · exact .inl e
        clear hz hsg hp2
        have HLL := Lib.hid (rls_len o pre)
        rcases hz2 with hz2 | ⟨rfl, hz2⟩
        all_goals
          go_wp2_with (at_builtin; refine wpList_app_r rfl _ _ rfl (_, g) rfl rfl HLL.out (HO.out.alloc _) (Bk.new wr 24 #[.int .i64 _, .int .u32 g]) ?c1 ?c2 ?_)
          case c1 => rw [HLL.out]; have := HL.out; omega
          case c2 => have := HBW.out.size; simp; omega
          intro p' c' w8 HA
          have HF : Hid (w8.ownsRow w1.heap.size 24 2 (.slice p' (pre.length + 1) c') (rls o (pre ++ [k])).length (rcls (rls o (pre ++ [k]))) ∧ Below w1.heap.size w1 w8) := by
            have h8 := HA.out
            unfold AppR at h8
            rw [← HSN.out] at h8
            refine ⟨h8.1, HBW.out.trans ?_⟩
            have h9 := h8.2.below (B := w1.heap.size) (by have := HBW.out.size; simp; omega) fun g e => (HO.out.lt g e).1
            exact (((Below.refl wr.heap.size wr).alloc (Nat.le_refl _) _).mono HBW.out.size).trans h9
          clear HA
          go_wp2
          go_roundw
          case rel => exact ⟨k + 1, pre ++ [k], p', c', by omega, by go_num, by rw [List.length_append]; rfl, by rw [List.length_append]; exact HF.out.1, HQ.out, HF.out.2⟩
          case measure => simp [intOf]; omega
    · obtain rfl : k = 4 := by omega
      have e : rls o pre = refs o := by
        have := HP.out
        rw [selF_done o (by omega), List.append_nil] at this
        rw [this]
        exact refs_sel o
      have hO := HO.out
      have el : pre.length = (refs o).length := by rw [← e, rls_len]
      rw [e, el] at hO
      have HO2 := Lib.hid hO
      rw [el]
      clear hO e el hlt hbk
      go_wp2
      go_ret
      exact ⟨p, c, rfl, own_lower HO2.out HB.out.2.size, hB2.out⟩
end Go.Proofs.YtmbkhkijmfogcaaDoor
