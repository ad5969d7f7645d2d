/- The program's functions on a heap that is not valid. -/
import Derived.Test.YtfnhkapbfgofkaaWg
import Derived.Test.YtfnhkapbfgofkaaWh
import Derived.Test.YtfnhkapbfgofkaaWi
namespace Go.Proofs.Ytfnhkapbfgofkaa
open Go.RowKit

theorem object_no (v : Option Addr) (r : Rf) (w : World) (h : HNo w v) : Calls Try.prog 26 #[.pointer v, .agg #[.int .i64 r.1, .int .u32 r.2]] w fun e w' => e = .returned (.tuple #[.agg #[.int .i64 0, .int .i64 0, .int .u32 0, .int .i64 0, .int .u32 0, .int .i64 0, .int .u32 0, .int .i64 0, .int .u32 0, .bool false], .int .i64 1]) ∧ Below w.heap.size w w' := by
  obtain ⟨s, g⟩ := r
  show Calls _ _ #[_, .agg #[.int .i64 s, .int .u32 g]] w _
  obtain ⟨w2, hw2⟩ : ∃ w2, ((w.alloc (.cells (rfc (s, g)) 34)).alloc (.cells (obc ob0) 53)).alloc (.cells (obc ob0) 53) = w2 := ⟨_, rfl⟩
  obtain ⟨k1, k2, k3, k4, k5⟩ := three_obj w (s, g) hw2
  have HK := Lib.hid (And.intro k1 (And.intro k2 (And.intro k3 (And.intro k4 k5))))
  have HW := Lib.hid hw2
  have FO := Lib.hid (found_no v (s, g) (.func (.func 58) #[] #[.pointer (some ⟨w.heap.size + 2, 0, none⟩)]) w2 (h.below k5))
  simp only [rfc, obc, ob0] at HW
  clear h k1 k2 k3 k4 k5 hw2
  go_enter Try.func26, Try.ntmps26
  go_upto_region 2 with fail
  rw [HW.out]
  obtain ⟨r0, r1⟩ := HK.out.1.rf
  simp only at r0 r1
  go_wp2_with (go_at_call 41; refine FO.out.mono ?_; rintro e w6 ⟨rfl, hb⟩; obtain ⟨a0, a1, a2, a3, a4, a5, a6, a7, a8, a9⟩ := (HK.out.2.2.1.below hb).ob; obtain ⟨c0, c1, c2, c3, c4, c5, c6, c7, c8, c9⟩ := (HK.out.2.1.below hb).ob; obtain ⟨f0, f1, f2, f3, f4, f5, f6, f7, f8, f9⟩ := (HK.out.2.1.below hb).ofz; simp only [ob0] at a0 a1 a2 a3 a4 a5 a6 a7 a8 a9 c0 c1 c2 c3 c4 c5 c6 c7 c8 c9; have HB6 := Lib.hid (bel2 HK.out.2.2.2.2 hb); clear hb)
  refine bodyPost_ret (v := .tuple #[.agg #[.int .i64 0, .int .i64 0, .int .u32 0, .int .i64 0, .int .u32 0, .int .i64 0, .int .u32 0, .int .i64 0, .int .u32 0, .bool false], .int .i64 1]) ?_ rfl ⟨rfl, ?_⟩
  · rw [results_cell_tmp rfl]
    go_simp
  · exact bel10 HB6.out (by omega) _ _ _ _ _ _ _ _ _ _
theorem has_no (v : Option Addr) (r : Rf) (w : World) (h : HNo w v) : Calls Try.prog 27 #[.pointer v, .agg #[.int .i64 r.1, .int .u32 r.2]] w fun e w' => e = .returned (.bool false) ∧ Below w.heap.size w w' := by
  obtain ⟨s, g⟩ := r
  show Calls _ _ #[_, .agg #[.int .i64 s, .int .u32 g]] w _
  have OB := Lib.hid (fun W (hW : Below w.heap.size w W) => object_no v (s, g) W (h.below hW))
  clear h
  go_enter Try.func27, Try.ntmps27
  go_wp2_with (go_at_call 26; refine (OB.out _ (bel_new _ _)).mono ?_; rintro e w6 ⟨rfl, hb⟩; have HB := Lib.hid (bel2 (bel_new _ _) hb); clear hb)
  go_ret
  exact ⟨rfl, HB.out.alloc HB.out.size _⟩
theorem load_no (v : Option Addr) (r : Rf) (i : Int) (w : World) (h : HNo w v) : Calls Try.prog 18 #[.pointer v, .agg #[.int .i64 r.1, .int .u32 r.2], .int .i64 i] w fun e w' => e = .returned (.tuple #[.agg #[.int .i64 0, .int .u32 0], .int .i64 1]) ∧ Below w.heap.size w w' := by
  obtain ⟨s, g⟩ := r
  show Calls _ _ #[_, .agg #[.int .i64 s, .int .u32 g], _] w _
  obtain ⟨w2, hw2⟩ : ∃ w2, (w.alloc (.cells (rfc (s, g)) 34)).alloc (.cells (rfc (0, 0)) 34) = w2 := ⟨_, rfl⟩
  obtain ⟨k1, k2, k3, k4⟩ := load_boxes w _ hw2
  have HW := Lib.hid hw2
  obtain ⟨a1, a2⟩ := k1.rf
  have K2 := Lib.hid k2
  have K4 := Lib.hid (And.intro k3 k4)
  have OB := Lib.hid (object_no v (s, g) w2 (h.below k4))
  simp only [rfc] at HW a1 a2
  clear h k1 k2 k3 k4 hw2
  go_enter Try.func18, Try.ntmps18
  go_upto_region 1 with fail
  rw [HW.out]
  go_wp2_with (go_at_call 26; refine OB.out.mono ?_; rintro e w3 ⟨rfl, hb3⟩; have hb4 := bel2 hb3 (bel_new w3 (.cells #[.int .i64 0, .int .i64 0, .int .u32 0, .int .i64 0, .int .u32 0, .int .i64 0, .int .u32 0, .int .i64 0, .int .u32 0, .bool false] 53)); obtain ⟨b0, b1⟩ := (K2.out.below hb4).rf; obtain ⟨f0, f1⟩ := (K2.out.below hb4).rfz; simp only at b0 b1; have HB5 := Lib.hid (bel2 K4.out.2 hb4); clear hb3 hb4)
  refine bodyPost_ret (v := .tuple #[.agg #[.int .i64 0, .int .u32 0], .int .i64 1]) ?_ rfl ⟨rfl, ?_⟩
  · rw [results_cell_tmp rfl]
    go_simp
  · exact bel_two HB5.out (by omega) _ _
theorem free_no (v : Option Addr) (r : Rf) (w : World) (h : HNo w v) : Calls Try.prog 16 #[.pointer v, .agg #[.int .i64 r.1, .int .u32 r.2]] w fun e w' => e = .returned (.int .i64 1) ∧ Below w.heap.size w w' := by
  obtain ⟨s, g⟩ := r
  show Calls _ _ #[_, .agg #[.int .i64 s, .int .u32 g]] w _
  obtain ⟨w2, hw2⟩ : ∃ w2, (w.alloc (.cells #[.pointer v] 25)).alloc (.cells (rfc (s, g)) 34) = w2 := ⟨_, rfl⟩
  obtain ⟨k1, k2, k3, k4⟩ := two_boxes w _ _ _ _ hw2
  have HW := Lib.hid hw2
  have a0 : w2.cell? ⟨w.heap.size, 0, none⟩ = some (.pointer v) := k1.cell 0
  obtain ⟨a1, a2⟩ := k2.rf
  have K4 := Lib.hid k4
  have FO := Lib.hid (found_no v (s, g) (.func (.func 42) #[] #[.pointer (some ⟨w.heap.size, 0, none⟩), .pointer (some ⟨w.heap.size + 1, 0, none⟩)]) w2 (h.below k4))
  simp only [rfc] at HW a1 a2
  clear h k1 k2 k3 k4 hw2
  go_enter Try.func16, Try.ntmps16
  go_upto_region 1 with fail
  rw [HW.out]
  go_wp2_with (go_at_call 41; refine FO.out.mono ?_; rintro e w6 ⟨rfl, hb⟩; have HZ := Lib.hid (bel2 K4.out hb); clear hb)
  go_ret
  exact ⟨rfl, HZ.out⟩
theorem store_no (v : Option Addr) (r : Rf) (i : Int) (x : Rf) (w : World) (h : HNo w v) : Calls Try.prog 20 #[.pointer v, .agg #[.int .i64 r.1, .int .u32 r.2], .int .i64 i, .agg #[.int .i64 x.1, .int .u32 x.2]] w fun e w' => e = .returned (.tuple #[.agg #[.int .i64 0, .int .u32 0], .int .i64 1]) ∧ Below w.heap.size w w' := by
  obtain ⟨s, g⟩ := r
  obtain ⟨vs, vg⟩ := x
  show Calls _ _ #[_, .agg #[.int .i64 s, .int .u32 g], _, .agg #[.int .i64 vs, .int .u32 vg]] w _
  obtain ⟨w2, hw2⟩ : ∃ w2, (((((w.alloc (.cells #[.pointer v] 25)).alloc (.cells (rfc (s, g)) 34)).alloc (.cells #[.int .i64 i] 3)).alloc (.cells (rfc (vs, vg)) 34)).alloc (.cells (rfc (0, 0)) 34)).alloc (.cells (rfc (0, 0)) 34) = w2 := ⟨_, rfl⟩
  obtain ⟨k0, k1, k2, k3, k4, k5, k6, k7⟩ := six_boxes w _ _ _ _ _ _ _ _ _ _ _ _ hw2
  have HW := Lib.hid hw2
  have a0 : w2.cell? ⟨w.heap.size, 0, none⟩ = some (.pointer v) := k0.cell 0
  obtain ⟨a1, a2⟩ := k1.rf
  have FO := Lib.hid (found_no v (s, g) (.func (.func 48) #[] #[.pointer (some ⟨w.heap.size + 2, 0, none⟩), .pointer (some ⟨w.heap.size, 0, none⟩), .pointer (some ⟨w.heap.size + 3, 0, none⟩), .pointer (some ⟨w.heap.size + 5, 0, none⟩)]) w2 (h.below k7))
  have K4 := Lib.hid k4
  have K5 := Lib.hid k5
  have K7 := Lib.hid k7
  simp only [rfc] at HW a1 a2
  clear h k0 k1 k2 k3 k4 k5 k7 hw2
  go_enter Try.func20, Try.ntmps20
  go_upto_region 2 with fail
  rw [HW.out]
  go_wp2_with (go_at_call 41; refine FO.out.mono ?_; rintro e w6 ⟨rfl, hb⟩; obtain ⟨b0, b1⟩ := (K4.out.below hb).rf; obtain ⟨f0, f1⟩ := (K4.out.below hb).rfz; obtain ⟨c0, c1⟩ := (K5.out.below hb).rf; simp only at b0 b1 c0 c1; have HB := Lib.hid (bel2 K7.out hb); clear hb)
  refine bodyPost_ret (v := .tuple #[.agg #[.int .i64 0, .int .u32 0], .int .i64 1]) ?_ rfl ⟨rfl, ?_⟩
  · rw [results_cell_tmp rfl]
    go_simp
  · exact bel_two HB.out (by omega) _ _
theorem make_no (v : Option Addr) (n : Int) (hd : Bool) (w : World) (h : HNo w v) : Calls Try.prog 14 #[.pointer v, .int .i64 n, .bool hd] w fun e w' => e = .returned (.tuple #[.agg #[.int .i64 0, .int .u32 0], .int .i64 1]) ∧ Below w.heap.size w w' := by
  have HV : Hid (∀ W, Below w.heap.size w W → Calls Try.prog 35 #[.pointer v] W fun e w' => e = .returned (.bool false) ∧ W = w') := fun W hW => hvalid_no v W (h.below hW)
  clear h
  go_enter Try.func14, Try.ntmps14
  go_wp2_with (go_at_call 35; refine (HV.out _ (bel_new _ _)).mono ?_; rintro e w' ⟨rfl, rfl⟩)
  refine bodyPost_ret (v := .tuple #[.agg #[.int .i64 0, .int .u32 0], .int .i64 1]) ?_ rfl ⟨rfl, ?_⟩
  · rw [results_cell_tmp rfl]
    go_simp
  · exact bel_new _ _
theorem copy_no (v : Option Addr) (w : World) (h : HNo w v) : Calls Try.prog 22 #[.pointer v] w fun e w' => e = .returned (.pointer none) ∧ Below w.heap.size w w' := by
  have HV := Lib.hid (hvalid_no v w h)
  clear h
  go_enter Try.func22, Try.ntmps22
  go_wp2_with (go_at_call 35; refine HV.out.mono ?_; rintro e w' ⟨rfl, rfl⟩)
  go_ret
  exact ⟨rfl, Below.refl _ _⟩
end Go.Proofs.Ytfnhkapbfgofkaa
