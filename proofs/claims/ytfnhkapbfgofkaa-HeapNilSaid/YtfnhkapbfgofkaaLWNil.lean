/- The walk of HeapNil: it returns true for every input. -/
import Derived.Test.YtfnhkapbfgofkaaWw
import Derived.Test.YtfnhkapbfgofkaaWy
namespace Go.Proofs.Ytfnhkapbfgofkaa
open Go.RowKit

set_option maxHeartbeats 4000000 in
set_option maxRecDepth 100000 in
theorem wNil_walk (s : Stp) (w : World) (_hs : s.Ok) :
    Calls Try.prog 4 #[.agg s.cs] w fun e w' => e = .returned (.bool true) ∧ Below w.heap.size w w' := by
  obtain ⟨sd, si, sh, skn, svl, ⟨rs, rg⟩, ⟨vs, vg⟩⟩ := s
  show Calls _ _ #[.agg #[.int .i64 sd, .int .i64 si, .bool sh, .int .u8 skn, .int .u8 svl, .int .i64 rs, .int .u32 rg, .int .i64 vs, .int .u32 vg]] w _
  go_enter Try.func4, Try.ntmps4
  go_wp2
  have hA : Bk (((w.alloc (.cells #[.int .i64 sd, .int .i64 si, .bool sh, .int .u8 skn, .int .u8 svl, .int .i64 rs, .int .u32 rg, .int .i64 vs, .int .u32 vg] 36)).alloc (.cells #[.pointer none] 49)).alloc (.cells #[.pointer none, .pointer (some ⟨w.heap.size + 1, 0, none⟩)] 25)) w.heap.size 36 #[.int .i64 sd, .int .i64 si, .bool sh, .int .u8 skn, .int .u8 svl, .int .i64 rs, .int .u32 rg, .int .i64 vs, .int .u32 vg] := ((Bk.new w _ _).below (bel_new _ _)).below (bel_new _ _)
  have hZ : Bk (((w.alloc (.cells #[.int .i64 sd, .int .i64 si, .bool sh, .int .u8 skn, .int .u8 svl, .int .i64 rs, .int .u32 rg, .int .i64 vs, .int .u32 vg] 36)).alloc (.cells #[.pointer none] 49)).alloc (.cells #[.pointer none, .pointer (some ⟨w.heap.size + 1, 0, none⟩)] 25)) (w.heap.size + 1) 49 #[.pointer none] := by
    have := Bk.new (w.alloc (.cells #[.int .i64 sd, .int .i64 si, .bool sh, .int .u8 skn, .int .u8 svl, .int .i64 rs, .int .u32 rg, .int .i64 vs, .int .u32 vg] 36)) 49 #[.pointer none]
    rw [World.size_alloc] at this
    exact this.below (bel_new _ _)
  have hT : Bk (((w.alloc (.cells #[.int .i64 sd, .int .i64 si, .bool sh, .int .u8 skn, .int .u8 svl, .int .i64 rs, .int .u32 rg, .int .i64 vs, .int .u32 vg] 36)).alloc (.cells #[.pointer none] 49)).alloc (.cells #[.pointer none, .pointer (some ⟨w.heap.size + 1, 0, none⟩)] 25)) (w.heap.size + 1 + 1) 25 #[.pointer none, .pointer (some ⟨w.heap.size + 1, 0, none⟩)] := by
    have := Bk.new ((w.alloc (.cells #[.int .i64 sd, .int .i64 si, .bool sh, .int .u8 skn, .int .u8 svl, .int .i64 rs, .int .u32 rg, .int .i64 vs, .int .u32 vg] 36)).alloc (.cells #[.pointer none] 49)) 25 #[.pointer none, .pointer (some ⟨w.heap.size + 1, 0, none⟩)]
    rw [World.size_alloc, World.size_alloc] at this
    exact this
  have hB : Below w.heap.size w (((w.alloc (.cells #[.int .i64 sd, .int .i64 si, .bool sh, .int .u8 skn, .int .u8 svl, .int .i64 rs, .int .u32 rg, .int .i64 vs, .int .u32 vg] 36)).alloc (.cells #[.pointer none] 49)).alloc (.cells #[.pointer none, .pointer (some ⟨w.heap.size + 1, 0, none⟩)] 25)) := bel2 (bel2 (bel_new _ _) (bel_new _ _)) (bel_new _ _)
  generalize ((w.alloc (.cells #[.int .i64 sd, .int .i64 si, .bool sh, .int .u8 skn, .int .u8 svl, .int .i64 rs, .int .u32 rg, .int .i64 vs, .int .u32 vg] 36)).alloc (.cells #[.pointer none] 49)).alloc (.cells #[.pointer none, .pointer (some ⟨w.heap.size + 1, 0, none⟩)] 25) = w4 at *
  have FA : Hid (∀ W, Below w4.heap.size w4 W → W.cell? ⟨w.heap.size, 0, none⟩ = some (.int .i64 sd) ∧ W.cell? ⟨w.heap.size, 1, none⟩ = some (.int .i64 si) ∧ W.cell? ⟨w.heap.size, 2, none⟩ = some (.bool sh) ∧ W.cell? ⟨w.heap.size, 3, none⟩ = some (.int .u8 skn) ∧ W.cell? ⟨w.heap.size, 4, none⟩ = some (.int .u8 svl) ∧ W.cell? ⟨w.heap.size, 5, none⟩ = some (.int .i64 rs) ∧ W.cell? ⟨w.heap.size, 6, none⟩ = some (.int .u32 rg) ∧ W.cell? ⟨w.heap.size, 7, none⟩ = some (.int .i64 vs) ∧ W.cell? ⟨w.heap.size, 8, none⟩ = some (.int .u32 vg)) := fun W hW => by
    have h := hA.below hW
    exact ⟨h.cell 0, h.cell 1, h.cell 2, h.cell 3, h.cell 4, h.cell 5, h.cell 6, h.cell 7, h.cell 8⟩
  have FT : Hid (∀ W (j : Nat), Below w4.heap.size w4 W → j < 2 → ∃ v, W.cell? ⟨w.heap.size + 1 + 1, j, none⟩ = some (.pointer v) ∧ (∀ W', Below W.heap.size W W' → HNo W' v)) := fun W j hW hj => by
    have h2 := hT.below hW
    match j, hj with
    | 0, _ => exact ⟨none, h2.cell 0, fun _ _ => .inl rfl⟩
    | 1, _ => exact ⟨_, h2.cell 1, fun W' hW' => .inr ⟨_, rfl, (hZ.below hW).below hW'⟩⟩
  have HB := Lib.hid hB
  clear hA hZ hT hB
  go_loopw [19] (fun s wr => ∃ j : Nat, j ≤ 2 ∧ s = .int .i64 j ∧ Hid (Below w4.heap.size w4 wr)) (fun s _ => 2 - (intOf s).toNat)
  case atStart => exact ⟨0, by omega, rfl, Below.refl _ _⟩
  case round =>
    obtain ⟨j, hj, rfl, HW⟩ := hrel
    by_cases hlt : j < 2
    · obtain ⟨v, hv, hi⟩ := FT.out wr j HW.out hlt
      have HI := Lib.hid hi
      clear hi
      obtain ⟨a0, a1, a2, a3, a4, a5, a6, a7, a8⟩ := FA.out wr (HW.out)
      go_wp2_with fail
      refine (make_no v si sh _ (HI.out _ (Below.refl _ _))).mono ?_
      rintro e v1 ⟨rfl, hb⟩
      obtain ⟨W1, hW⟩ : ∃ W1, v1.alloc (.cells #[.int .i64 0, .int .u32 0] 34) = W1 := ⟨_, rfl⟩
      have hn := Bk.new v1 34 #[.int .i64 0, .int .u32 0]
      have hb2 := bel2 hb (bel_new v1 (.cells #[.int .i64 0, .int .u32 0] 34))
      have hb3 := bel2 hb (bel_new v1 (.cells #[.int .i64 0, .int .u32 0] 34))
      rw [hW] at hn hb2 hb3
      have HA_1 := Lib.hid hn
      have B1 := Lib.hid hb3
      have HW1 := Lib.hid hW
      clear a0 a1 a2 a3 a4 a5 a6 a7 a8
      clear hn hb hb2 hb3 hW
      go_upto_region 6 with fail
      rw [HW1.out]
      obtain ⟨a0, a1, a2, a3, a4, a5, a6, a7, a8⟩ := FA.out W1 (bel2 HW.out B1.out)
      go_wp2_with fail
      refine (load_no v (rs, rg) si _ (HI.out _ (B1.out))).mono ?_
      rintro e v2 ⟨rfl, hb⟩
      obtain ⟨W2, hW⟩ : ∃ W2, v2.alloc (.cells #[.int .i64 0, .int .u32 0] 34) = W2 := ⟨_, rfl⟩
      have hn := Bk.new v2 34 #[.int .i64 0, .int .u32 0]
      have hb2 := bel2 hb (bel_new v2 (.cells #[.int .i64 0, .int .u32 0] 34))
      have hb3 := bel2 (bel2 B1.out hb) (bel_new v2 (.cells #[.int .i64 0, .int .u32 0] 34))
      rw [hW] at hn hb2 hb3
      have HA_2 := Lib.hid (HA_1.out.below hb2)
      have HB_2 := Lib.hid hn
      have B2 := Lib.hid hb3
      have HW2 := Lib.hid hW
      clear a0 a1 a2 a3 a4 a5 a6 a7 a8
      clear hn hb hb2 hb3 hW
      go_upto_region 7 with fail
      rw [HW2.out]
      obtain ⟨a0, a1, a2, a3, a4, a5, a6, a7, a8⟩ := FA.out W2 (bel2 HW.out B2.out)
      go_wp2_with fail
      refine (store_no v (rs, rg) si (vs, vg) _ (HI.out _ (B2.out))).mono ?_
      rintro e v3 ⟨rfl, hb⟩
      obtain ⟨W3, hW⟩ : ∃ W3, v3.alloc (.cells #[.int .i64 0, .int .u32 0] 34) = W3 := ⟨_, rfl⟩
      have hn := Bk.new v3 34 #[.int .i64 0, .int .u32 0]
      have hb2 := bel2 hb (bel_new v3 (.cells #[.int .i64 0, .int .u32 0] 34))
      have hb3 := bel2 (bel2 B2.out hb) (bel_new v3 (.cells #[.int .i64 0, .int .u32 0] 34))
      rw [hW] at hn hb2 hb3
      have HA_3 := Lib.hid (HA_2.out.below hb2)
      have HB_3 := Lib.hid (HB_2.out.below hb2)
      have HC_3 := Lib.hid hn
      have B3 := Lib.hid hb3
      have HW3 := Lib.hid hW
      clear a0 a1 a2 a3 a4 a5 a6 a7 a8
      clear hn hb hb2 hb3 hW
      go_upto_region 8 with fail
      rw [HW3.out]
      obtain ⟨a0, a1, a2, a3, a4, a5, a6, a7, a8⟩ := FA.out W3 (bel2 HW.out B3.out)
      go_wp2_with (first
        | (go_at_call 26; refine (object_no v (rs, rg) _ (HI.out _ B3.out)).mono ?_; rintro e v4 ⟨rfl, hb⟩; have hb2 := bel2 hb (bel_new v4 (.cells #[.int .i64 0, .int .i64 0, .int .u32 0, .int .i64 0, .int .u32 0, .int .i64 0, .int .u32 0, .int .i64 0, .int .u32 0, .bool false] 53)); have B4 := Lib.hid (bel2 B3.out hb2); have ha := HA_3.out.below hb2; have hbb := HB_3.out.below hb2; have hc := HC_3.out.below hb2; have ho := Bk.new v4 53 #[.int .i64 0, .int .i64 0, .int .u32 0, .int .i64 0, .int .u32 0, .int .i64 0, .int .u32 0, .int .i64 0, .int .u32 0, .bool false]; have p0 := ha.cell 0; have p1 := ha.cell 1; have p2 := hbb.cell 0; have p3 := hbb.cell 1; have p4 := hc.cell 0; have p5 := hc.cell 1; have p6 := ho.cell 0; have p7 := ho.cell 9; clear a0 a1 a2 a3 a4 a5 a6 a7 a8; obtain ⟨a0, a1, a2, a3, a4, a5, a6, a7, a8⟩ := FA.out (v4.alloc (.cells #[.int .i64 0, .int .i64 0, .int .u32 0, .int .i64 0, .int .u32 0, .int .i64 0, .int .u32 0, .int .i64 0, .int .u32 0, .bool false] 53)) (bel2 HW.out B4.out); clear hb hb2 ha hbb hc ho)
        | (go_at_call 16; refine (free_no v (rs, rg) _ (HI.out _ B4.out)).mono ?_; rintro e v5 ⟨rfl, hb⟩; have B5 := Lib.hid (bel2 B4.out hb); clear a0 a1 a2 a3 a4 a5 a6 a7 a8; obtain ⟨a0, a1, a2, a3, a4, a5, a6, a7, a8⟩ := FA.out v5 (bel2 HW.out B5.out); clear hb)
        | (go_at_call 27; refine (has_no v (rs, rg) _ (HI.out _ B5.out)).mono ?_; rintro e v6 ⟨rfl, hb⟩; have B6 := Lib.hid (bel2 B5.out hb); clear hb)
        | (go_at_call 28; refine (hall_no v _ (HI.out _ B6.out)).mono ?_; rintro e v7 ⟨rfl, hb⟩; have B7 := Lib.hid (bel2 B6.out hb); clear hb)
        | (go_at_call 29; refine (hlen_no v _ (HI.out _ B7.out)).mono ?_; rintro e v8 ⟨rfl, hb⟩; have B8 := Lib.hid (bel2 B7.out hb); clear hb)
        | (go_at_call 30; refine (hleft_no v _ (HI.out _ B8.out)).mono ?_; rintro e v9 ⟨rfl, hb⟩; have B9 := Lib.hid (bel2 B8.out hb); clear hb)
        | (go_at_call 22; refine (copy_no v _ (HI.out _ B9.out)).mono ?_; rintro e v10 ⟨rfl, hb⟩; have B10 := Lib.hid (bel2 B9.out hb); clear hb))
      go_roundw
      case rel => exact ⟨j + 1, by omega, by go_num, bel2 HW.out B10.out⟩
      case measure => simp [intOf]; omega
    · obtain rfl : j = 2 := by omega
      go_wp2_with (go_at_call 11; refine (works_ok _).mono ?_; rintro e w' ⟨rfl, hb⟩; have H9 := Lib.hid (bel2 HW.out hb); clear hb)
      go_ret
      exact ⟨rfl, bel2 HB.out H9.out⟩
end Go.Proofs.Ytfnhkapbfgofkaa
