/- The contract of Has. -/
import Derived.Test.YtpinmiplefidpaaGreatDoorOd
import Derived.BigQuiet
import Derived.Deep.RegionHeld3
import Derived.Deep.RegionWith
namespace Go.Proofs.YtpinmiplefidpaaGreatDoor
open Go.RowKit

theorem whas_no (p : Option Addr) (k i g : Int) (w : World) (h : WInv w p) : Calls Tryz.prog 30 #[.pointer p, .agg #[.int .i64 k, .int .i64 i, .int .u32 g]] w fun e w' => e = .returned (.bool false) ∧ Below w.heap.size w w' := by
  have H := Lib.hid (h.below (bel_new w (.cells #[.int .i64 k, .int .i64 i, .int .u32 g] 25)))
  clear h
  go_enter Tryz.func30, Tryz.ntmps30
  go_wp2_with (go_at_call 62; refine (wvalid_no _ _ H.out).mono ?_; rintro e w' ⟨rfl, rfl⟩)
  go_ret
  exact ⟨rfl, bel_new _ _⟩
set_option maxRecDepth 100000 in
set_option maxHeartbeats 1000000 in
theorem has_file (A : Ad) (W : Wd) (i g : Int) (r : Bool) (w : World) (h : WW w A W) (hr : r = true ↔ W.Here 1 i g) :
    Calls Tryz.prog 30 #[ptr A.b, .agg #[.int .i64 1, .int .i64 i, .int .u32 g]] w fun e w' => e = .returned (.bool r) ∧ Below w.heap.size w w' := by
  have B0 := bel_new w (.cells #[.int .i64 1, .int .i64 i, .int .u32 g] 25)
  have HB0 := Lib.hid B0
  have n0 := Bk.new w 25 #[.int .i64 1, .int .i64 i, .int .u32 g]
  have H := Lib.hid (h.below B0).1
  have hc := H.out.c0
  have TB : Hid (∀ W' : World, Below (w.alloc (.cells #[.int .i64 1, .int .i64 i, .int .u32 g] 25)).heap.size (w.alloc (.cells #[.int .i64 1, .int .i64 i, .int .u32 g] 25)) W' → Calls Tryz.prog 63 #[ptr A.p, .int .i64 1] W' fun e w' => e = .returned (vF A.f) ∧ W' = w') := fun W' hb => by
    have h' := (H.out.below hb).1
    exact wtable_ok A.p A 1 (vF A.f) _ rfl h'.p0 h'.p1 h'.p2 rfl
  have CO : Hid (r = true ↔ (⟨1, i, g⟩ : Ro) ∈ W.F.all) := hr.trans ((H.out.ok.file rfl).trans (mem_files H.out.ok.F).symm)
  have o0 := n0.cell 0
  have N0 := Lib.hid n0
  clear h B0 hr n0
  generalize hw1 : w.alloc (.cells #[.int .i64 1, .int .i64 i, .int .u32 g] 25) = w1 at *
  unfold ptr at *
  go_enter Tryz.func30, Tryz.ntmps30
  go_wp2_with (go_at_call 62; refine (wvalid_yes _ _ _ hc).mono ?_; rintro e w' ⟨rfl, rfl⟩)
  have B0 := Lib.hid (bel_drew (Below.refl w1.heap.size w1))
  go_region_held3 (fun W => W.cell? ⟨A.b, 0, none⟩ = some (.pointer (some ⟨A.p, 0, none⟩)) ∧ W.cell? ⟨w.heap.size, 0, none⟩ = some (.int .i64 1)) (first | (exact ⟨hc, o0⟩) | (with_reducible exact hz1)) (first
    | (go_at_call 63; (with_reducible refine (TB.out _ B0.out).mono ?_); rintro e w5 ⟨rfl, rfl⟩; have hz1 := And.intro (cell_keeps B0.out hc) (cell_keeps B0.out o0)))
  all_goals
    unfold vF
    go_wp2
  have hm := mF_all A.f
  have hlen : W.F.all.length ≤ 1000 := by have := H.out.ok.F.held_len; rw [FD.Fb.all_len]; omega
  have AL : Hid (∀ W' : World, Below w1.heap.size w1 W' → Calls Tryz.prog 166 #[.pointer (some ⟨A.f, 0, none⟩)] W' (FD.NewO W.F.all W')) := fun W' hb => FD.fall_ok A.f A.fk A.fm W.F W' (H.out.below hb).1.hF
  have B1 := Lib.hid (bel_drew B0.out)
  have S1 := LS.cells3 (N0.out.below B1.out)
  go_region_held3 (fun W => W.cell? ⟨w.heap.size, 0, none⟩ = some (.int .i64 1) ∧ W.cell? ⟨w.heap.size, 1, none⟩ = some (.int .i64 i) ∧ W.cell? ⟨w.heap.size, 2, none⟩ = some (.int .u32 g)) (first | exact S1 | (with_reducible exact hz1) | (with_reducible exact hz2)) (first
    | (go_at_call 166; refine (AL.out _ B1.out).mono ?_; rintro e w6 ⟨p, c, rfl, ho, hb6⟩; have hz1 := LS.cells3 ((N0.out.below B1.out).below hb6); have HO := Lib.hid ho; have HB6b := Lib.hid hb6; have HB6 := Lib.hid (bel2 B1.out hb6); clear ho hb6)
    | (go_at_call 94; refine (ocontains_ok _ _ _ _ _ _ _ r _ rfl hlen (RdO.of_own HO.out) CO.out).mono ?_; rintro e w7 ⟨rfl, hb7⟩; have hz2 := LS.cells3 (((N0.out.below B1.out).below HB6b.out).below hb7); have HB7 := Lib.hid (bel2 HB6.out hb7); clear hb7))
  all_goals
    go_wp2
    go_ret
    exact ⟨rfl, HB0.out.trans (HB7.out.mono HB0.out.size)⟩
set_option maxRecDepth 100000 in
set_option maxHeartbeats 1000000 in
theorem has_buffer (A : Ad) (W : Wd) (i g : Int) (r : Bool) (w : World) (h : WW w A W) (hr : r = true ↔ W.Here 2 i g) :
    Calls Tryz.prog 30 #[ptr A.b, .agg #[.int .i64 2, .int .i64 i, .int .u32 g]] w fun e w' => e = .returned (.bool r) ∧ Below w.heap.size w w' := by
  have B0 := bel_new w (.cells #[.int .i64 2, .int .i64 i, .int .u32 g] 25)
  have HB0 := Lib.hid B0
  have n0 := Bk.new w 25 #[.int .i64 2, .int .i64 i, .int .u32 g]
  have H := Lib.hid (h.below B0).1
  have hc := H.out.c0
  have TB : Hid (∀ W' : World, Below (w.alloc (.cells #[.int .i64 2, .int .i64 i, .int .u32 g] 25)).heap.size (w.alloc (.cells #[.int .i64 2, .int .i64 i, .int .u32 g] 25)) W' → Calls Tryz.prog 63 #[ptr A.p, .int .i64 2] W' fun e w' => e = .returned (vP A.q) ∧ W' = w') := fun W' hb => by
    have h' := (H.out.below hb).1
    exact wtable_ok A.p A 2 (vP A.q) _ rfl h'.p0 h'.p1 h'.p2 rfl
  have CO : Hid (r = true ↔ (⟨2, i, g⟩ : Ro) ∈ W.P.all) := hr.trans ((H.out.ok.buffer rfl).trans (mem_bufs).symm)
  have o0 := n0.cell 0
  have N0 := Lib.hid n0
  clear h B0 hr n0
  generalize hw1 : w.alloc (.cells #[.int .i64 2, .int .i64 i, .int .u32 g] 25) = w1 at *
  unfold ptr at *
  go_enter Tryz.func30, Tryz.ntmps30
  go_wp2_with (go_at_call 62; refine (wvalid_yes _ _ _ hc).mono ?_; rintro e w' ⟨rfl, rfl⟩)
  have B0 := Lib.hid (bel_drew (Below.refl w1.heap.size w1))
  go_region_held3 (fun W => W.cell? ⟨A.b, 0, none⟩ = some (.pointer (some ⟨A.p, 0, none⟩)) ∧ W.cell? ⟨w.heap.size, 0, none⟩ = some (.int .i64 2)) (first | (exact ⟨hc, o0⟩) | (with_reducible exact hz1)) (first
    | (go_at_call 63; (with_reducible refine (TB.out _ B0.out).mono ?_); rintro e w5 ⟨rfl, rfl⟩; have hz1 := And.intro (cell_keeps B0.out hc) (cell_keeps B0.out o0)))
  all_goals
    unfold vP
    go_wp2
  have hm := mP_all A.q
  have hlen : W.P.all.length ≤ 1000 := by have := H.out.ok.P.held_len; rw [BF.Po.all_len]; omega
  have AL : Hid (∀ W' : World, Below w1.heap.size w1 W' → Calls Tryz.prog 173 #[.pointer (some ⟨A.q, 0, none⟩)] W' (BF.NewO W.P.all W')) := fun W' hb => BF.pall_ok A.q A.qs A.qk W.P W' (H.out.below hb).1.hP
  have B1 := Lib.hid (bel_drew B0.out)
  have S1 := LS.cells3 (N0.out.below B1.out)
  go_region_held3 (fun W => W.cell? ⟨w.heap.size, 0, none⟩ = some (.int .i64 2) ∧ W.cell? ⟨w.heap.size, 1, none⟩ = some (.int .i64 i) ∧ W.cell? ⟨w.heap.size, 2, none⟩ = some (.int .u32 g)) (first | exact S1 | (with_reducible exact hz1) | (with_reducible exact hz2)) (first
    | (go_at_call 173; refine (AL.out _ B1.out).mono ?_; rintro e w6 ⟨p, c, rfl, ho, hb6⟩; have hz1 := LS.cells3 ((N0.out.below B1.out).below hb6); have HO := Lib.hid ho; have HB6b := Lib.hid hb6; have HB6 := Lib.hid (bel2 B1.out hb6); clear ho hb6)
    | (go_at_call 94; refine (ocontains_ok _ _ _ _ _ _ _ r _ rfl hlen (RdO.of_own HO.out) CO.out).mono ?_; rintro e w7 ⟨rfl, hb7⟩; have hz2 := LS.cells3 (((N0.out.below B1.out).below HB6b.out).below hb7); have HB7 := Lib.hid (bel2 HB6.out hb7); clear hb7))
  all_goals
    go_wp2
    go_ret
    exact ⟨rfl, HB0.out.trans (HB7.out.mono HB0.out.size)⟩
set_option maxRecDepth 100000 in
set_option maxHeartbeats 1000000 in
theorem has_lease (A : Ad) (W : Wd) (i g : Int) (r : Bool) (w : World) (h : WW w A W) (hr : r = true ↔ W.Here 3 i g) :
    Calls Tryz.prog 30 #[ptr A.b, .agg #[.int .i64 3, .int .i64 i, .int .u32 g]] w fun e w' => e = .returned (.bool r) ∧ Below w.heap.size w w' := by
  have B0 := bel_new w (.cells #[.int .i64 3, .int .i64 i, .int .u32 g] 25)
  have HB0 := Lib.hid B0
  have n0 := Bk.new w 25 #[.int .i64 3, .int .i64 i, .int .u32 g]
  have H := Lib.hid (h.below B0).1
  have hc := H.out.c0
  have TB : Hid (∀ W' : World, Below (w.alloc (.cells #[.int .i64 3, .int .i64 i, .int .u32 g] 25)).heap.size (w.alloc (.cells #[.int .i64 3, .int .i64 i, .int .u32 g] 25)) W' → Calls Tryz.prog 63 #[ptr A.p, .int .i64 3] W' fun e w' => e = .returned (vD A.d) ∧ W' = w') := fun W' hb => by
    have h' := (H.out.below hb).1
    exact wtable_ok A.p A 3 (vD A.d) _ rfl h'.p0 h'.p1 h'.p2 rfl
  have CO : Hid (r = true ↔ (⟨3, i, g⟩ : Ro) ∈ W.D.all) := hr.trans ((H.out.ok.lease rfl).trans (mem_leases H.out.ok.D).symm)
  have o0 := n0.cell 0
  have N0 := Lib.hid n0
  clear h B0 hr n0
  generalize hw1 : w.alloc (.cells #[.int .i64 3, .int .i64 i, .int .u32 g] 25) = w1 at *
  unfold ptr at *
  go_enter Tryz.func30, Tryz.ntmps30
  go_wp2_with (go_at_call 62; refine (wvalid_yes _ _ _ hc).mono ?_; rintro e w' ⟨rfl, rfl⟩)
  have B0 := Lib.hid (bel_drew (Below.refl w1.heap.size w1))
  go_region_held3 (fun W => W.cell? ⟨A.b, 0, none⟩ = some (.pointer (some ⟨A.p, 0, none⟩)) ∧ W.cell? ⟨w.heap.size, 0, none⟩ = some (.int .i64 3)) (first | (exact ⟨hc, o0⟩) | (with_reducible exact hz1)) (first
    | (go_at_call 63; (with_reducible refine (TB.out _ B0.out).mono ?_); rintro e w5 ⟨rfl, rfl⟩; have hz1 := And.intro (cell_keeps B0.out hc) (cell_keeps B0.out o0)))
  all_goals
    unfold vD
    go_wp2
  have hm := mD_all A.d
  have hlen : W.D.all.length ≤ 1000 := by have := H.out.ok.D.held_len; rw [LS.Dk.all_len]; omega
  have AL : Hid (∀ W' : World, Below w1.heap.size w1 W' → Calls Tryz.prog 179 #[.pointer (some ⟨A.d, 0, none⟩)] W' (LS.NewO W.D.all W')) := fun W' hb => LS.dall_ok A.d A.dk A.da W.D W' (H.out.below hb).1.hD
  have B1 := Lib.hid (bel_drew B0.out)
  have S1 := LS.cells3 (N0.out.below B1.out)
  go_region_held3 (fun W => W.cell? ⟨w.heap.size, 0, none⟩ = some (.int .i64 3) ∧ W.cell? ⟨w.heap.size, 1, none⟩ = some (.int .i64 i) ∧ W.cell? ⟨w.heap.size, 2, none⟩ = some (.int .u32 g)) (first | exact S1 | (with_reducible exact hz1) | (with_reducible exact hz2)) (first
    | (go_at_call 179; refine (AL.out _ B1.out).mono ?_; rintro e w6 ⟨p, c, rfl, ho, hb6⟩; have hz1 := LS.cells3 ((N0.out.below B1.out).below hb6); have HO := Lib.hid ho; have HB6b := Lib.hid hb6; have HB6 := Lib.hid (bel2 B1.out hb6); clear ho hb6)
    | (go_at_call 94; refine (ocontains_ok _ _ _ _ _ _ _ r _ rfl hlen (RdO.of_own HO.out) CO.out).mono ?_; rintro e w7 ⟨rfl, hb7⟩; have hz2 := LS.cells3 (((N0.out.below B1.out).below HB6b.out).below hb7); have HB7 := Lib.hid (bel2 HB6.out hb7); clear hb7))
  all_goals
    go_wp2
    go_ret
    exact ⟨rfl, HB0.out.trans (HB7.out.mono HB0.out.size)⟩
set_option maxRecDepth 100000 in
set_option maxHeartbeats 1000000 in
theorem has_none (A : Ad) (W : Wd) (k i g : Int) (w : World) (h : WW w A W) (hk : ¬ (1 ≤ k ∧ k ≤ 3)) :
    Calls Tryz.prog 30 #[ptr A.b, .agg #[.int .i64 k, .int .i64 i, .int .u32 g]] w fun e w' => e = .returned (.bool false) ∧ Below w.heap.size w w' := by
  have B0 := bel_new w (.cells #[.int .i64 k, .int .i64 i, .int .u32 g] 25)
  have HB0 := Lib.hid B0
  have n0 := Bk.new w 25 #[.int .i64 k, .int .i64 i, .int .u32 g]
  have H := Lib.hid (h.below B0).1
  have hc := H.out.c0
  have TB : Hid (∀ W' : World, Below (w.alloc (.cells #[.int .i64 k, .int .i64 i, .int .u32 g] 25)).heap.size (w.alloc (.cells #[.int .i64 k, .int .i64 i, .int .u32 g] 25)) W' → Calls Tryz.prog 63 #[ptr A.p, .int .i64 k] W' fun e w' => e = .returned .nilIface ∧ W' = w') := fun W' hb => by
    have h' := (H.out.below hb).1
    refine wtable_ok A.p A k .nilIface _ rfl h'.p0 h'.p1 h'.p2 ?_
    unfold tabV
    rw [if_neg (by omega), if_neg (by omega), if_neg (by omega)]
  have o0 := n0.cell 0
  have N0 := Lib.hid n0
  clear h B0 n0 hk
  generalize hw1 : w.alloc (.cells #[.int .i64 k, .int .i64 i, .int .u32 g] 25) = w1 at *
  unfold ptr at *
  go_enter Tryz.func30, Tryz.ntmps30
  go_wp2_with (go_at_call 62; refine (wvalid_yes _ _ _ hc).mono ?_; rintro e w' ⟨rfl, rfl⟩)
  have B0 := Lib.hid (bel_drew (Below.refl w1.heap.size w1))
  go_region_held3 (fun W => W.cell? ⟨A.b, 0, none⟩ = some (.pointer (some ⟨A.p, 0, none⟩)) ∧ W.cell? ⟨w.heap.size, 0, none⟩ = some (.int .i64 k)) (first | (exact ⟨hc, o0⟩) | (with_reducible exact hz1)) (first
    | (go_at_call 63; (with_reducible refine (TB.out _ B0.out).mono ?_); rintro e w5 ⟨rfl, rfl⟩; have hz1 := And.intro (cell_keeps B0.out hc) (cell_keeps B0.out o0)))
  all_goals
    go_wp2
  go_quiet (fail)
  go_wp2
  go_ret
  exact ⟨rfl, HB0.out.trans ((bel_drewN B0.out _).mono HB0.out.size)⟩
/-- Has, for any resource. -/
theorem whas_ok (A : Ad) (W : Wd) (k i g : Int) (r : Bool) (w : World) (h : WW w A W) (hr : r = true ↔ W.Here k i g) :
    Calls Tryz.prog 30 #[ptr A.b, .agg #[.int .i64 k, .int .i64 i, .int .u32 g]] w fun e w' => e = .returned (.bool r) ∧ Below w.heap.size w w' := by
  by_cases h1 : k = 1
  · subst h1; exact has_file A W i g r w h hr
  by_cases h2 : k = 2
  · subst h2; exact has_buffer A W i g r w h hr
  by_cases h3 : k = 3
  · subst h3; exact has_lease A W i g r w h hr
  · have hk : ¬ (1 ≤ k ∧ k ≤ 3) := by omega
    obtain rfl : r = false := by cases r with | false => rfl | true => exact absurd (h.ok.kind (hr.1 rfl)) hk
    exact has_none A W k i g w h hk
end Go.Proofs.YtpinmiplefidpaaGreatDoor
