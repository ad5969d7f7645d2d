/- The contract of holder. -/
import Derived.Test.YtpinmiplefidpaaGreatDoorOe
import Derived.Laws.ResultCell
import Derived.Deep.RegionHeld3
import Derived.Deep.RegionWith
namespace Go.Proofs.YtpinmiplefidpaaGreatDoor
open Go.RowKit

/-- Whether a resource is possible. -/
def pE (k i g : Int) : Int := if Poss k i g then 0 else 2
theorem ochk_is (k i g : Int) (hr : RgO k i g) (w : World) : Calls Tryz.prog 43 #[.agg #[.int .i64 k, .int .i64 i, .int .u32 g]] w fun e w' => e = .returned (.int .i64 (pE k i g)) ∧ Below w.heap.size w w' := by
  unfold pE
  rcases ok_or (n := 64) hr with ⟨k', i', g', rfl, rfl, rfl, h⟩ | h
  · obtain ⟨h1, h2, h3, h4, h5⟩ := id h
    rw [if_pos ⟨by omega, by omega, by omega, by omega, by omega⟩]
    exact ochk_ok k' i' g' h w
  · rw [if_neg (fun ⟨h1, h2, h3, h4, h5⟩ => by unfold Bad at h; omega)]
    exact ochk_bad k i g hr h w
theorem cell1 {w : World} {A : Nat} {x : Value} (h : Bk w A 98 #[x]) : w.cell? ⟨A, 0, none⟩ = some x ∧ w.frozen? ⟨A, 0, none⟩ = false := ⟨h.cell 0, h.frozen 0⟩
set_option maxRecDepth 100000 in
set_option maxHeartbeats 1000000 in
theorem hold_file (A : Ad) (W : Wd) (i g : Int) (w : World) (h : WW w A W) (hr : RgO 1 i g) (hp : Poss 1 i g) :
    Calls Tryz.prog 77 #[ptr A.b, .agg #[.int .i64 1, .int .i64 i, .int .u32 g], .bool true] w fun e w' => e = .returned (.tuple #[.agg #[.pointer none], .int .i64 8]) ∧ Below w.heap.size w w' := by
  have B0 := bel_new w (.cells #[.int .i64 1, .int .i64 i, .int .u32 g] 25)
  have HB0 := Lib.hid B0
  have n0 := Bk.new w 25 #[.int .i64 1, .int .i64 i, .int .u32 g]
  have H := Lib.hid (h.below B0).1
  have N0 := Lib.hid n0
  clear h B0 n0
  generalize hw1 : w.alloc (.cells #[.int .i64 1, .int .i64 i, .int .u32 g] 25) = w1 at *
  have b1 := bel_new w1 (.cells #[.pointer none] 98)
  have n1 := Bk.new w1 98 #[.pointer none]
  generalize hw2 : w1.alloc (.cells #[.pointer none] 98) = w2 at *
  have N1 := Lib.hid n1
  have B1 := Lib.hid b1
  have H2 := Lib.hid (H.out.below b1).1
  have M0 := Lib.hid (N0.out.below b1)
  have HR := Lib.hid hr
  obtain ⟨o0, o1, o2⟩ := LS.cells3 M0.out
  have hc := H2.out.c0
  clear n1 b1 hr
  unfold ptr at *
  have HP := Lib.hid hp
  clear hp
  have hta : ∀ (d : Nat) (w : World), (Instr.typeAssert (vF d) 100 98 true).run Tryz.prog w = .ok (.tuple #[.agg #[.pointer none], .bool false]) w := fun _ _ => by kernel_rfl
  unfold vF at hta
  go_enter Tryz.func77, Tryz.ntmps77
  go_wp2_with fail
  refine (wvalid_yes _ _ _ hc).mono ?_
  rintro e w' ⟨rfl, rfl⟩
  go_wp2_with fail
  have hck := ochk_is 1 i g HR.out w2
  unfold pE at hck
  rw [if_pos HP.out] at hck
  refine hck.mono ?_
  rintro e w3 ⟨rfl, hb3⟩
  have B3 := Lib.hid (bel2 B1.out hb3)
  have M3 := Lib.hid (M0.out.below hb3)
  have N3 := Lib.hid (N1.out.below hb3)
  have H3 := Lib.hid (H2.out.below hb3).1
  clear hck hb3 o0 o1 o2 hc
  go_wp2_with fail
  have D3 := Lib.hid (bel_drew (Below.refl w3.heap.size w3))
  have TB : Hid (∀ W' : World, Below w3.heap.size w3 W' → Calls Tryz.prog 63 #[.pointer (some ⟨A.p, 0, none⟩), .int .i64 1] W' fun e w' => e = .returned (.iface 94 (.agg #[.pointer (some ⟨A.f, 0, none⟩)])) ∧ W' = w') := fun W' hb => by
    have h' := (H3.out.below hb).1
    exact wtable_ok A.p A 1 (vF A.f) _ rfl h'.p0 h'.p1 h'.p2 rfl
  have c0 := (H3.out.below D3.out).1.c0
  unfold ptr at c0
  obtain ⟨o0, o1, o2⟩ := LS.cells3 (M3.out.below D3.out)
  clear o1 o2
  have DA : Hid (∀ v, Below w3.heap.size w3 (w3.alloc (.cells #[v] 98)).drew) := fun v => bel_drew (bel_new w3 _)
  have CA : Hid (∀ v, (w3.alloc (.cells #[v] 98)).drew.cell? ⟨A.b, 0, none⟩ = some (.pointer (some ⟨A.p, 0, none⟩)) ∧ (w3.alloc (.cells #[v] 98)).drew.cell? ⟨w.heap.size, 0, none⟩ = some (.int .i64 1)) := fun v => ⟨(H3.out.below (DA.out v)).1.c0, (LS.cells3 (M3.out.below (DA.out v))).1⟩
  go_region_held3 (fun W => W.cell? ⟨A.b, 0, none⟩ = some (.pointer (some ⟨A.p, 0, none⟩)) ∧ W.cell? ⟨w.heap.size, 0, none⟩ = some (.int .i64 1)) (first | exact ⟨c0, o0⟩ | exact CA.out _) (first
    | (go_at_call 63; refine (TB.out _ (by first | exact D3.out | exact DA.out _)).mono ?_; rintro e w4 ⟨rfl, rfl⟩))
  all_goals
    have B4 := Lib.hid (bel2 B3.out (DA.out (.pointer none)))
    have H4 := Lib.hid (H3.out.below (DA.out (.pointer none))).1
    have M4 := LS.cells3 (M3.out.below (DA.out (.pointer none)))
    have N4 := Lib.hid (N3.out.below (DA.out (.pointer none)))
    have E4 := Lib.hid (show Bk (w3.alloc (.cells #[.pointer none] 98)).drew w3.heap.size 98 #[.pointer none] from Bk.new w3 _ _)
    generalize (w3.alloc (.cells #[.pointer none] 98)).drew = w4 at *
    obtain ⟨o0, o1, o2⟩ := M4
    obtain ⟨d0, d1⟩ := cell1 N4.out
    clear o0 o1 o2 c0
    go_wp2
    have y0 : (w4.setCell ⟨w1.heap.size, 0, none⟩ (.pointer none)).cell? ⟨w1.heap.size, 0, none⟩ = some (.pointer none) := (N4.out.put 0 (.pointer none)).cell 0
    refine bodyPost_ret (v := .tuple #[.agg #[.pointer none], .int .i64 8]) (by simp [results, Tryz.results77, go_sem, y0]) rfl ⟨rfl, ?_⟩
    exact (HB0.out.trans (B4.out.mono HB0.out.size)).trans (((Kept.refl (· = w1.heap.size) _).put1 0 _).below (Nat.le_trans HB0.out.size B4.out.size) fun k e => by subst e; exact HB0.out.size)
set_option maxRecDepth 100000 in
set_option maxHeartbeats 1000000 in
theorem hold_buffer (A : Ad) (W : Wd) (i g : Int) (w : World) (h : WW w A W) (hr : RgO 2 i g) (hp : Poss 2 i g) :
    Calls Tryz.prog 77 #[ptr A.b, .agg #[.int .i64 2, .int .i64 i, .int .u32 g], .bool true] w fun e w' => e = .returned (.tuple #[.agg #[.pointer none], .int .i64 8]) ∧ Below w.heap.size w w' := by
  have B0 := bel_new w (.cells #[.int .i64 2, .int .i64 i, .int .u32 g] 25)
  have HB0 := Lib.hid B0
  have n0 := Bk.new w 25 #[.int .i64 2, .int .i64 i, .int .u32 g]
  have H := Lib.hid (h.below B0).1
  have N0 := Lib.hid n0
  clear h B0 n0
  generalize hw1 : w.alloc (.cells #[.int .i64 2, .int .i64 i, .int .u32 g] 25) = w1 at *
  have b1 := bel_new w1 (.cells #[.pointer none] 98)
  have n1 := Bk.new w1 98 #[.pointer none]
  generalize hw2 : w1.alloc (.cells #[.pointer none] 98) = w2 at *
  have N1 := Lib.hid n1
  have B1 := Lib.hid b1
  have H2 := Lib.hid (H.out.below b1).1
  have M0 := Lib.hid (N0.out.below b1)
  have HR := Lib.hid hr
  obtain ⟨o0, o1, o2⟩ := LS.cells3 M0.out
  have hc := H2.out.c0
  clear n1 b1 hr
  unfold ptr at *
  have HP := Lib.hid hp
  clear hp
  have hta : ∀ (d : Nat) (w : World), (Instr.typeAssert (vP d) 100 98 true).run Tryz.prog w = .ok (.tuple #[.agg #[.pointer none], .bool false]) w := fun _ _ => by kernel_rfl
  unfold vP at hta
  go_enter Tryz.func77, Tryz.ntmps77
  go_wp2_with fail
  refine (wvalid_yes _ _ _ hc).mono ?_
  rintro e w' ⟨rfl, rfl⟩
  go_wp2_with fail
  have hck := ochk_is 2 i g HR.out w2
  unfold pE at hck
  rw [if_pos HP.out] at hck
  refine hck.mono ?_
  rintro e w3 ⟨rfl, hb3⟩
  have B3 := Lib.hid (bel2 B1.out hb3)
  have M3 := Lib.hid (M0.out.below hb3)
  have N3 := Lib.hid (N1.out.below hb3)
  have H3 := Lib.hid (H2.out.below hb3).1
  clear hck hb3 o0 o1 o2 hc
  go_wp2_with fail
  have D3 := Lib.hid (bel_drew (Below.refl w3.heap.size w3))
  have TB : Hid (∀ W' : World, Below w3.heap.size w3 W' → Calls Tryz.prog 63 #[.pointer (some ⟨A.p, 0, none⟩), .int .i64 2] W' fun e w' => e = .returned (.iface 96 (.agg #[.pointer (some ⟨A.q, 0, none⟩)])) ∧ W' = w') := fun W' hb => by
    have h' := (H3.out.below hb).1
    exact wtable_ok A.p A 2 (vP A.q) _ rfl h'.p0 h'.p1 h'.p2 rfl
  have c0 := (H3.out.below D3.out).1.c0
  unfold ptr at c0
  obtain ⟨o0, o1, o2⟩ := LS.cells3 (M3.out.below D3.out)
  clear o1 o2
  have DA : Hid (∀ v, Below w3.heap.size w3 (w3.alloc (.cells #[v] 98)).drew) := fun v => bel_drew (bel_new w3 _)
  have CA : Hid (∀ v, (w3.alloc (.cells #[v] 98)).drew.cell? ⟨A.b, 0, none⟩ = some (.pointer (some ⟨A.p, 0, none⟩)) ∧ (w3.alloc (.cells #[v] 98)).drew.cell? ⟨w.heap.size, 0, none⟩ = some (.int .i64 2)) := fun v => ⟨(H3.out.below (DA.out v)).1.c0, (LS.cells3 (M3.out.below (DA.out v))).1⟩
  go_region_held3 (fun W => W.cell? ⟨A.b, 0, none⟩ = some (.pointer (some ⟨A.p, 0, none⟩)) ∧ W.cell? ⟨w.heap.size, 0, none⟩ = some (.int .i64 2)) (first | exact ⟨c0, o0⟩ | exact CA.out _) (first
    | (go_at_call 63; refine (TB.out _ (by first | exact D3.out | exact DA.out _)).mono ?_; rintro e w4 ⟨rfl, rfl⟩))
  all_goals
    have B4 := Lib.hid (bel2 B3.out (DA.out (.pointer none)))
    have H4 := Lib.hid (H3.out.below (DA.out (.pointer none))).1
    have M4 := LS.cells3 (M3.out.below (DA.out (.pointer none)))
    have N4 := Lib.hid (N3.out.below (DA.out (.pointer none)))
    have E4 := Lib.hid (show Bk (w3.alloc (.cells #[.pointer none] 98)).drew w3.heap.size 98 #[.pointer none] from Bk.new w3 _ _)
    generalize (w3.alloc (.cells #[.pointer none] 98)).drew = w4 at *
    obtain ⟨o0, o1, o2⟩ := M4
    obtain ⟨d0, d1⟩ := cell1 N4.out
    clear o0 o1 o2 c0
    go_wp2
    have y0 : (w4.setCell ⟨w1.heap.size, 0, none⟩ (.pointer none)).cell? ⟨w1.heap.size, 0, none⟩ = some (.pointer none) := (N4.out.put 0 (.pointer none)).cell 0
    refine bodyPost_ret (v := .tuple #[.agg #[.pointer none], .int .i64 8]) (by simp [results, Tryz.results77, go_sem, y0]) rfl ⟨rfl, ?_⟩
    exact (HB0.out.trans (B4.out.mono HB0.out.size)).trans (((Kept.refl (· = w1.heap.size) _).put1 0 _).below (Nat.le_trans HB0.out.size B4.out.size) fun k e => by subst e; exact HB0.out.size)
set_option maxRecDepth 100000 in
set_option maxHeartbeats 1000000 in
theorem hold_lease (A : Ad) (W : Wd) (i g : Int) (r : Bool) (w : World) (h : WW w A W) (hr : RgO 3 i g) (hp : Poss 3 i g) (hh : r = true ↔ W.Here 3 i g) :
    Calls Tryz.prog 77 #[ptr A.b, .agg #[.int .i64 3, .int .i64 i, .int .u32 g], .bool true] w fun e w' => e = .returned (.tuple #[.agg #[.pointer (if r = true then some ⟨A.d, 0, none⟩ else none)], .int .i64 (if r = true then 0 else 5)]) ∧ Below w.heap.size w w' := by
  have B0 := bel_new w (.cells #[.int .i64 3, .int .i64 i, .int .u32 g] 25)
  have HB0 := Lib.hid B0
  have n0 := Bk.new w 25 #[.int .i64 3, .int .i64 i, .int .u32 g]
  have H := Lib.hid (h.below B0).1
  have N0 := Lib.hid n0
  clear h B0 n0
  generalize hw1 : w.alloc (.cells #[.int .i64 3, .int .i64 i, .int .u32 g] 25) = w1 at *
  have b1 := bel_new w1 (.cells #[.pointer none] 98)
  have n1 := Bk.new w1 98 #[.pointer none]
  generalize hw2 : w1.alloc (.cells #[.pointer none] 98) = w2 at *
  have N1 := Lib.hid n1
  have B1 := Lib.hid b1
  have H2 := Lib.hid (H.out.below b1).1
  have M0 := Lib.hid (N0.out.below b1)
  have HR := Lib.hid hr
  obtain ⟨o0, o1, o2⟩ := LS.cells3 M0.out
  have hc := H2.out.c0
  clear n1 b1 hr
  unfold ptr at *
  have HP := Lib.hid hp
  clear hp
  have HH := Lib.hid hh
  clear hh
  have hta : ∀ (d : Nat) (w : World), (Instr.typeAssert (vD d) 100 98 true).run Tryz.prog w = .ok (.tuple #[.agg #[.pointer (some ⟨d, 0, none⟩)], .bool true]) w := fun _ _ => by kernel_rfl
  unfold vD at hta
  go_enter Tryz.func77, Tryz.ntmps77
  go_wp2_with fail
  refine (wvalid_yes _ _ _ hc).mono ?_
  rintro e w' ⟨rfl, rfl⟩
  go_wp2_with fail
  have hck := ochk_is 3 i g HR.out w2
  unfold pE at hck
  rw [if_pos HP.out] at hck
  refine hck.mono ?_
  rintro e w3 ⟨rfl, hb3⟩
  have B3 := Lib.hid (bel2 B1.out hb3)
  have M3 := Lib.hid (M0.out.below hb3)
  have N3 := Lib.hid (N1.out.below hb3)
  have H3 := Lib.hid (H2.out.below hb3).1
  clear hck hb3 o0 o1 o2 hc
  go_wp2_with fail
  have D3 := Lib.hid (bel_drew (Below.refl w3.heap.size w3))
  have TB : Hid (∀ W' : World, Below w3.heap.size w3 W' → Calls Tryz.prog 63 #[.pointer (some ⟨A.p, 0, none⟩), .int .i64 3] W' fun e w' => e = .returned (.iface 98 (.agg #[.pointer (some ⟨A.d, 0, none⟩)])) ∧ W' = w') := fun W' hb => by
    have h' := (H3.out.below hb).1
    exact wtable_ok A.p A 3 (vD A.d) _ rfl h'.p0 h'.p1 h'.p2 rfl
  have c0 := (H3.out.below D3.out).1.c0
  unfold ptr at c0
  obtain ⟨o0, o1, o2⟩ := LS.cells3 (M3.out.below D3.out)
  clear o1 o2
  have DA : Hid (∀ v, Below w3.heap.size w3 (w3.alloc (.cells #[v] 98)).drew) := fun v => bel_drew (bel_new w3 _)
  have CA : Hid (∀ v, (w3.alloc (.cells #[v] 98)).drew.cell? ⟨A.b, 0, none⟩ = some (.pointer (some ⟨A.p, 0, none⟩)) ∧ (w3.alloc (.cells #[v] 98)).drew.cell? ⟨w.heap.size, 0, none⟩ = some (.int .i64 3)) := fun v => ⟨(H3.out.below (DA.out v)).1.c0, (LS.cells3 (M3.out.below (DA.out v))).1⟩
  go_region_held3 (fun W => W.cell? ⟨A.b, 0, none⟩ = some (.pointer (some ⟨A.p, 0, none⟩)) ∧ W.cell? ⟨w.heap.size, 0, none⟩ = some (.int .i64 3)) (first | exact ⟨c0, o0⟩ | exact CA.out _) (first
    | (go_at_call 63; refine (TB.out _ (by first | exact D3.out | exact DA.out _)).mono ?_; rintro e w4 ⟨rfl, rfl⟩))
  all_goals
    have B4 := Lib.hid (bel2 B3.out (DA.out (.pointer (some ⟨A.d, 0, none⟩))))
    have H4 := Lib.hid (H3.out.below (DA.out (.pointer (some ⟨A.d, 0, none⟩)))).1
    have M4 := LS.cells3 (M3.out.below (DA.out (.pointer (some ⟨A.d, 0, none⟩))))
    have N4 := Lib.hid (N3.out.below (DA.out (.pointer (some ⟨A.d, 0, none⟩))))
    have E4 := Lib.hid (show Bk (w3.alloc (.cells #[.pointer (some ⟨A.d, 0, none⟩)] 98)).drew w3.heap.size 98 #[.pointer (some ⟨A.d, 0, none⟩)] from Bk.new w3 _ _)
    generalize (w3.alloc (.cells #[.pointer (some ⟨A.d, 0, none⟩)] 98)).drew = w4 at *
    obtain ⟨o0, o1, o2⟩ := M4
    go_wp2_with fail
    refine (whas_ok A W 3 i g r w4 H4.out HH.out).mono ?_
    rintro e w5 ⟨rfl, hb5⟩
    have B5 := Lib.hid (bel2 B4.out hb5)
    obtain ⟨d0, d1⟩ := cell1 (N4.out.below hb5)
    obtain ⟨x0, x1⟩ := cell1 (E4.out.below hb5)
    have N5 := Lib.hid (N4.out.below hb5)
    clear hb5 o0 o1 o2 c0
    cases r with
    | true =>
      go_wp2
      have y0 : (w5.setCell ⟨w1.heap.size, 0, none⟩ (.pointer (some ⟨A.d, 0, none⟩))).cell? ⟨w1.heap.size, 0, none⟩ = some (.pointer (some ⟨A.d, 0, none⟩)) := (N5.out.put 0 (.pointer (some ⟨A.d, 0, none⟩))).cell 0
      refine bodyPost_ret (v := .tuple #[.agg #[.pointer (some ⟨A.d, 0, none⟩)], .int .i64 0]) (by simp [results, Tryz.results77, go_sem, y0]) rfl ⟨rfl, ?_⟩
      exact (HB0.out.trans (B5.out.mono HB0.out.size)).trans (((Kept.refl (· = w1.heap.size) _).put1 0 _).below (Nat.le_trans HB0.out.size B5.out.size) fun k e => by subst e; exact HB0.out.size)
    | false =>
      go_wp2
      have y0 : (w5.setCell ⟨w1.heap.size, 0, none⟩ (.pointer none)).cell? ⟨w1.heap.size, 0, none⟩ = some (.pointer none) := (N5.out.put 0 (.pointer none)).cell 0
      refine bodyPost_ret (v := .tuple #[.agg #[.pointer none], .int .i64 5]) (by simp [results, Tryz.results77, go_sem, y0]) rfl ⟨rfl, ?_⟩
      exact (HB0.out.trans (B5.out.mono HB0.out.size)).trans (((Kept.refl (· = w1.heap.size) _).put1 0 _).below (Nat.le_trans HB0.out.size B5.out.size) fun k e => by subst e; exact HB0.out.size)
set_option maxRecDepth 100000 in
set_option maxHeartbeats 1000000 in
theorem hold_arg (A : Ad) (W : Wd) (k i g : Int) (right : Bool) (w : World) (h : WW w A W) (hr : RgO k i g) (hp : ¬ (Poss k i g ∧ right = true)) :
    Calls Tryz.prog 77 #[ptr A.b, .agg #[.int .i64 k, .int .i64 i, .int .u32 g], .bool right] w fun e w' => e = .returned (.tuple #[.agg #[.pointer none], .int .i64 2]) ∧ Below w.heap.size w w' := by
  have B0 := bel_new w (.cells #[.int .i64 k, .int .i64 i, .int .u32 g] 25)
  have HB0 := Lib.hid B0
  have n0 := Bk.new w 25 #[.int .i64 k, .int .i64 i, .int .u32 g]
  have H := Lib.hid (h.below B0).1
  have N0 := Lib.hid n0
  clear h B0 n0
  generalize hw1 : w.alloc (.cells #[.int .i64 k, .int .i64 i, .int .u32 g] 25) = w1 at *
  have b1 := bel_new w1 (.cells #[.pointer none] 98)
  have n1 := Bk.new w1 98 #[.pointer none]
  generalize hw2 : w1.alloc (.cells #[.pointer none] 98) = w2 at *
  have N1 := Lib.hid n1
  have B1 := Lib.hid b1
  have H2 := Lib.hid (H.out.below b1).1
  have M0 := Lib.hid (N0.out.below b1)
  have HR := Lib.hid hr
  obtain ⟨o0, o1, o2⟩ := LS.cells3 M0.out
  have hc := H2.out.c0
  clear n1 b1 hr
  unfold ptr at *
  have HP := Lib.hid hp
  clear hp
  obtain ⟨E, hE⟩ : ∃ E, pE k i g = E := ⟨_, rfl⟩
  have hck := ochk_is k i g HR.out w2
  rw [hE] at hck
  have HE := Lib.hid hE
  have HC := Lib.hid hck
  clear hE hck
  by_cases hz : E = 2
  · subst hz
    go_enter Tryz.func77, Tryz.ntmps77
    go_wp2_with fail
    refine (wvalid_yes _ _ _ hc).mono ?_
    rintro e w' ⟨rfl, rfl⟩
    go_wp2_with fail
    refine HC.out.mono ?_
    rintro e w3 ⟨rfl, hb3⟩
    have B3 := Lib.hid (bel2 B1.out hb3)
    obtain ⟨d0, d1⟩ := cell1 (N1.out.below hb3)
    have N3 := Lib.hid (N1.out.below hb3)
    clear hb3 o0 o1 o2 hc
    go_wp2
    have y0 : (w3.setCell ⟨w1.heap.size, 0, none⟩ (.pointer none)).cell? ⟨w1.heap.size, 0, none⟩ = some (.pointer none) := (N3.out.put 0 (.pointer none)).cell 0
    refine bodyPost_ret (v := .tuple #[.agg #[.pointer none], .int .i64 2]) (by simp [results, Tryz.results77, go_sem, y0]) rfl ⟨rfl, ?_⟩
    exact (HB0.out.trans (B3.out.mono HB0.out.size)).trans (((Kept.refl (· = w1.heap.size) _).put1 0 _).below (Nat.le_trans HB0.out.size B3.out.size) fun k e => by subst e; exact HB0.out.size)
  · have hz2 : E = 0 := by have := HE.out; unfold pE at this; split at this <;> omega
    subst hz2
    have hpp : Poss k i g := by have := HE.out; unfold pE at this; split at this; assumption; omega
    obtain rfl : right = false := by cases right with | false => rfl | true => exact absurd ⟨hpp, rfl⟩ HP.out
    clear hz hpp
    go_enter Tryz.func77, Tryz.ntmps77
    go_wp2_with fail
    refine (wvalid_yes _ _ _ hc).mono ?_
    rintro e w' ⟨rfl, rfl⟩
    go_wp2_with fail
    refine HC.out.mono ?_
    rintro e w3 ⟨rfl, hb3⟩
    have B3 := Lib.hid (bel2 B1.out hb3)
    obtain ⟨d0, d1⟩ := cell1 (N1.out.below hb3)
    have N3 := Lib.hid (N1.out.below hb3)
    clear hb3 o0 o1 o2 hc
    go_wp2
    have y0 : (w3.setCell ⟨w1.heap.size, 0, none⟩ (.pointer none)).cell? ⟨w1.heap.size, 0, none⟩ = some (.pointer none) := (N3.out.put 0 (.pointer none)).cell 0
    refine bodyPost_ret (v := .tuple #[.agg #[.pointer none], .int .i64 2]) (by simp [results, Tryz.results77, go_sem, y0]) rfl ⟨rfl, ?_⟩
    exact (HB0.out.trans (B3.out.mono HB0.out.size)).trans (((Kept.refl (· = w1.heap.size) _).put1 0 _).below (Nat.le_trans HB0.out.size B3.out.size) fun k e => by subst e; exact HB0.out.size)
set_option maxRecDepth 100000 in
set_option maxHeartbeats 1000000 in
theorem hold_no (p : Option Addr) (k i g : Int) (right : Bool) (w : World) (h : WInv w p) :
    Calls Tryz.prog 77 #[.pointer p, .agg #[.int .i64 k, .int .i64 i, .int .u32 g], .bool right] w fun e w' => e = .returned (.tuple #[.agg #[.pointer none], .int .i64 1]) ∧ Below w.heap.size w w' := by
  have B0 := bel_new w (.cells #[.int .i64 k, .int .i64 i, .int .u32 g] 25)
  have HB0 := Lib.hid B0
  have h1 := h.below B0
  clear h B0
  generalize hw1 : w.alloc (.cells #[.int .i64 k, .int .i64 i, .int .u32 g] 25) = w1 at *
  have b1 := bel_new w1 (.cells #[.pointer none] 98)
  have n1 := Bk.new w1 98 #[.pointer none]
  generalize hw2 : w1.alloc (.cells #[.pointer none] 98) = w2 at *
  have N1 := Lib.hid n1
  have B1 := Lib.hid b1
  have H2 := Lib.hid (h1.below b1)
  obtain ⟨d0, d1⟩ := cell1 n1
  clear n1 b1 h1
  go_enter Tryz.func77, Tryz.ntmps77
  go_wp2_with (go_at_call 62; refine (wvalid_no _ _ H2.out).mono ?_; rintro e w' ⟨rfl, rfl⟩)
  have y0 : (w2.setCell ⟨w1.heap.size, 0, none⟩ (.pointer none)).cell? ⟨w1.heap.size, 0, none⟩ = some (.pointer none) := (N1.out.put 0 (.pointer none)).cell 0
  refine bodyPost_ret (v := .tuple #[.agg #[.pointer none], .int .i64 1]) (by simp [results, Tryz.results77, go_sem, y0]) rfl ⟨rfl, ?_⟩
  exact (HB0.out.trans (B1.out.mono HB0.out.size)).trans (((Kept.refl (· = w1.heap.size) _).put1 0 _).below (Nat.le_trans HB0.out.size B1.out.size) fun k e => by subst e; exact HB0.out.size)
/-- holder, for any resource. -/
theorem hold_ok (A : Ad) (W : Wd) (k i g : Int) (right : Bool) (w : World) (h : WW w A W) (hr : RgO k i g) :
    Calls Tryz.prog 77 #[ptr A.b, .agg #[.int .i64 k, .int .i64 i, .int .u32 g], .bool right] w fun e w' => e = .returned (.tuple #[.agg #[.pointer (if W.hE k i g right = 0 then some ⟨A.d, 0, none⟩ else none)], .int .i64 (W.hE k i g right)]) ∧ Below w.heap.size w w' := by
  unfold Wd.hE
  by_cases hp : Poss k i g ∧ right = true
  · rw [if_neg (not_not_intro hp)]
    obtain ⟨hp1, rfl⟩ := hp
    by_cases h3 : k = 3
    · subst h3
      rw [if_neg (not_not_intro rfl)]
      refine (hold_lease A W i g (decide (W.Here 3 i g)) w h hr hp1 (by simp)).mono ?_
      rintro e w' ⟨rfl, hb⟩
      refine ⟨?_, hb⟩
      by_cases hh : W.Here 3 i g <;> simp [hh]
    · rw [if_pos h3]
      by_cases h1 : k = 1
      · subst h1
        exact hold_file A W i g w h hr hp1
      · obtain rfl : k = 2 := by have := hp1.1; have := hp1.2.1; omega
        exact hold_buffer A W i g w h hr hp1
  · rw [if_pos hp]
    exact hold_arg A W k i g right w h hr hp
end Go.Proofs.YtpinmiplefidpaaGreatDoor
