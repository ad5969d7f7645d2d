/- The contracts of Until and Renew. -/
import Derived.Test.YtpinmiplefidpaaGreatDoorOi
import Derived.Test.YtpinmiplefidpaaGreatDoorOg
namespace Go.Proofs.YtpinmiplefidpaaGreatDoor
open Go.RowKit

theorem Wd.Ok.hE_zero {W : Wd} (h : W.Ok) {k i g : Int} {r : Bool} (e : W.hE k i g r = 0) : r = true ∧ W.D.chk k i g = 0 := by
  unfold Wd.hE at e
  split at e
  · omega
  · rename_i h1
    split at e
    · omega
    · rename_i h2
      split at e
      · omega
      · rename_i h3
        exact ⟨(Classical.not_not.1 h1).2, (h.lease (Classical.not_not.1 h2)).1 (Classical.not_not.1 h3)⟩
theorem Wd.Ok.hE_of {W : Wd} (h : W.Ok) {k i g : Int} (e : W.D.chk k i g = 0) : W.hE k i g true = 0 := by
  have hh : W.Here k i g := .inr (.inr e)
  unfold Wd.hE
  rw [if_neg (not_not_intro ⟨h.poss hh, rfl⟩), if_neg (not_not_intro (LS.Dk.chk_is e).1), if_neg (not_not_intro hh)]
theorem Wd.Ok.til_ne {W : Wd} (h : W.Ok) {k i g : Int} (e : W.uE k i g ≠ 0) : W.til k i g = 0 := by
  unfold Wd.til LS.Dk.til
  rw [if_neg fun c => e (h.hE_of c)]
  rfl
theorem bk1 {w : World} {A : Nat} {x y : Value} (h : Bk w A 98 #[x]) : Bk (w.setCell ⟨A, 0, none⟩ y) A 98 #[y] := h.put 0 y
set_option maxRecDepth 100000 in
set_option maxHeartbeats 1000000 in
theorem wuntil_ok (A : Ad) (W : Wd) (k i g : Int) (w : World) (h : WW w A W) (hr : RgO k i g) :
    Calls Tryz.prog 28 #[ptr A.b, .agg #[.int .i64 k, .int .i64 i, .int .u32 g]] w fun e w' => e = .returned (.tuple #[.int .i64 (W.til k i g), .int .i64 (W.uE k i g)]) ∧ Below w.heap.size w w' := by
  have B0 := bel_new w (.cells #[.int .i64 k, .int .i64 i, .int .u32 g] 25)
  have HB0 := Lib.hid B0
  have n0 := Bk.new w 25 #[.int .i64 k, .int .i64 i, .int .u32 g]
  have H := Lib.hid (h.below B0).1
  have N0 := Lib.hid n0
  have HT := Lib.hid (fun e => h.ok.til_ne (k := k) (i := i) (g := g) e)
  have HZ := Lib.hid (fun e => h.ok.hE_zero (k := k) (i := i) (g := g) (r := true) e)
  obtain ⟨o0, o1, o2⟩ := LS.cells3 n0
  clear h B0 n0
  generalize hw1 : w.alloc (.cells #[.int .i64 k, .int .i64 i, .int .u32 g] 25) = w1 at *
  have HR := Lib.hid hr
  clear hr
  have HC := Lib.hid (hold_ok A W k i g true w1 H.out HR.out)
  obtain ⟨E, hE⟩ : ∃ E, W.hE k i g true = E := ⟨_, rfl⟩
  have hE2 : W.uE k i g = E := hE
  rw [hE] at HC HZ
  rw [hE2] at HT ⊢
  clear hE hE2
  obtain ⟨L, hL⟩ : ∃ L : Int, W.til k i g = L := ⟨_, rfl⟩
  have HL := Lib.hid hL
  rw [hL] at HT ⊢
  clear hL
  by_cases hz : E = 0
  · subst hz
    rw [if_pos rfl] at HC
    go_enter Tryz.func28, Tryz.ntmps28
    go_wp2_with fail
    refine HC.out.mono ?_
    rintro e w2 ⟨rfl, hb2⟩
    have B2 := Lib.hid hb2
    have b3 := bel_new w2 (.cells #[.pointer (some ⟨A.d, 0, none⟩)] 98)
    have n3 := Bk.new w2 98 #[.pointer (some ⟨A.d, 0, none⟩)]
    have N2 := N0.out.below hb2
    clear o0 o1 o2
    generalize hw3 : w2.alloc (.cells #[.pointer (some ⟨A.d, 0, none⟩)] 98) = w3 at *
    obtain ⟨o0, o1, o2⟩ := LS.cells3 (N2.below b3)
    obtain ⟨x0, x1⟩ := cell1 n3
    have B3 := Lib.hid (bel2 hb2 b3)
    have H3 := Lib.hid ((H.out.below hb2).1.below b3).1
    clear hb2 b3 n3 N2
    have hct := (HZ.out trivial).2
    go_wp2_with fail
    refine (LS.duntil_ok A.d A.dk A.da W.D k i g HR.out w3 H3.out.hD).mono ?_
    have e2 : ((W.D.til k i g : Nat) : Int) = L := HL.out
    rw [hct, e2]
    rintro e w4 ⟨rfl, hb4⟩
    have B4 := Lib.hid (bel2 B3.out hb4)
    clear hb4 hct e2 x0 x1 o0 o1 o2
    go_wp2
    refine bodyPost_ret (v := .tuple #[.int .i64 L, .int .i64 0]) (by simp [results, Tryz.results28, go_sem]) rfl ⟨rfl, ?_⟩
    exact HB0.out.trans (B4.out.mono HB0.out.size)
  · rw [if_neg hz] at HC
    obtain rfl : L = 0 := HT.out hz
    have hz2 : (E == 0) = false := beq_eq_false_iff_ne.2 hz
    go_enter Tryz.func28, Tryz.ntmps28
    go_wp2_with fail
    refine HC.out.mono ?_
    rintro e w2 ⟨rfl, hb2⟩
    have B2 := Lib.hid hb2
    clear hb2 hz o0 o1 o2
    go_wp2
    refine bodyPost_ret (v := .tuple #[.int .i64 0, .int .i64 E]) (by simp [results, Tryz.results28, go_sem]) rfl ⟨rfl, ?_⟩
    exact (HB0.out.trans (B2.out.mono HB0.out.size)).alloc (Nat.le_trans HB0.out.size B2.out.size) _
/-- What Renew says where the lease is there: the error of the desk. -/
theorem Wd.nE_of {W : Wd} {k i g x : Int} {b : Bool} (hb : decide (LS.IsSpan x) = b) : W.nE k i g x = if W.hE k i g b = 0 then W.D.rE k i g x W.T else W.hE k i g b := by
  unfold Wd.nE; rw [hb]
theorem Wd.Ok.ren_ne {W : Wd} (h : W.Ok) {k i g x : Int} {b : Bool} (hb : decide (LS.IsSpan x) = b) (e : W.hE k i g b ≠ 0) : W.ren k i g x = W := by
  unfold Wd.ren
  rw [LS.Dk.renew_ne]
  intro c
  obtain ⟨c1, c2, _⟩ := LS.Dk.rE_zero c
  obtain rfl : b = true := by rw [← hb]; exact decide_eq_true c2
  exact e (h.hE_of c1)
theorem wrenew_no (p : Option Addr) (k i g x : Int) (w : World) (h : WInv w p) (_hr : RgO k i g) :
    Calls Tryz.prog 20 #[.pointer p, .agg #[.int .i64 k, .int .i64 i, .int .u32 g], .int .i64 x] w fun e w' => e = .returned (.int .i64 1) ∧ Below w.heap.size w w' := by
  have B0 := bel_new w (.cells #[.int .i64 k, .int .i64 i, .int .u32 g] 25)
  have HB0 := Lib.hid B0
  have n0 := Bk.new w 25 #[.int .i64 k, .int .i64 i, .int .u32 g]
  have H := Lib.hid (h.below B0)
  have N0 := Lib.hid n0
  obtain ⟨b, hb⟩ : ∃ b, decide (LS.IsSpan x) = b := ⟨_, rfl⟩
  clear h B0 n0
  generalize hw1 : w.alloc (.cells #[.int .i64 k, .int .i64 i, .int .u32 g] 25) = w1 at *
  have HBB := Lib.hid hb
  have D1 := Lib.hid (bel_drew (Below.refl w1.heap.size w1))
  have DA : Hid (∀ v, Below w1.heap.size w1 (w1.alloc (.cells #[v] 98)).drew) := fun v => bel_drew (bel_new w1 _)
  have CA : Hid (∀ v, (w1.alloc (.cells #[v] 98)).drew.cell? ⟨w.heap.size, 0, none⟩ = some (.int .i64 k) ∧ (w1.alloc (.cells #[v] 98)).drew.cell? ⟨w.heap.size, 1, none⟩ = some (.int .i64 i) ∧ (w1.alloc (.cells #[v] 98)).drew.cell? ⟨w.heap.size, 2, none⟩ = some (.int .u32 g)) := fun v => LS.cells3 (N0.out.below (DA.out v))
  obtain ⟨o0, o1, o2⟩ := LS.cells3 (N0.out.below D1.out)
  have HC : Hid (∀ W' : World, Below w1.heap.size w1 W' → Calls Tryz.prog 77 #[.pointer p, .agg #[.int .i64 k, .int .i64 i, .int .u32 g], .bool b] W' fun e w' => e = .returned (.tuple #[.agg #[.pointer none], .int .i64 1]) ∧ Below W'.heap.size W' w') := fun W' hB => hold_no p k i g b W' (H.out.below hB)
  clear hb
  go_enter Tryz.func20, Tryz.ntmps20
  go_wp2_with fail
  have LT := Lib.hid (show w.heap.size < w1.heap.size from N0.out.lt)
  have KP : Hid (∀ (W' : World) (v : Value), Below w1.heap.size w1 W' → (W'.setCell ⟨w1.heap.size, 0, none⟩ v).cell? ⟨w.heap.size, 0, none⟩ = some (.int .i64 k) ∧ (W'.setCell ⟨w1.heap.size, 0, none⟩ v).cell? ⟨w.heap.size, 1, none⟩ = some (.int .i64 i) ∧ (W'.setCell ⟨w1.heap.size, 0, none⟩ v).cell? ⟨w.heap.size, 2, none⟩ = some (.int .u32 g)) := fun W' v hB => LS.cells3 ((N0.out.below hB).kept ((Kept.refl (· = w1.heap.size) W').put1 0 v) (fun e => by have := LT.out; omega))
  have BP : Hid (∀ (W' : World) (v : Value), Below w1.heap.size w1 W' → Below w.heap.size w (W'.setCell ⟨w1.heap.size, 0, none⟩ v)) := fun W' v hB => HB0.out.trans ((hB.trans (((Kept.refl (· = w1.heap.size) W').put1 0 v).below hB.size fun k e => by subst e; exact Nat.le_refl _)).mono HB0.out.size)
  go_region_held3 (fun W => W.cell? ⟨w.heap.size, 0, none⟩ = some (.int .i64 k) ∧ W.cell? ⟨w.heap.size, 1, none⟩ = some (.int .i64 i) ∧ W.cell? ⟨w.heap.size, 2, none⟩ = some (.int .u32 g)) (first | exact ⟨o0, o1, o2⟩ | exact CA.out _ | (with_reducible exact CB) | exact LS.cells3 ((N0.out.below B2.out).up _) | exact KP.out _ _ B2.out) (first
    | (go_at_call 78; refine (wspan_is x b _ HBB.out).mono ?_; rintro e w' ⟨rfl, rfl⟩)
    | (go_at_call 77; (with_reducible refine (HC.out _ (DA.out (.pointer none))).mono ?_); rintro e w2 ⟨rfl, hb2⟩; have HB2 := Lib.hid hb2; have B2 := Lib.hid (bel2 (DA.out _) hb2); have CB := LS.cells3 (N0.out.below B2.out); have HX := Lib.hid ((show Bk (w1.alloc (.cells #[.pointer none] 98)).drew w1.heap.size 98 #[.pointer none] from Bk.new w1 _ _).below hb2); have x0 := (cell1 HX.out).1; have x1 := (cell1 HX.out).2; clear hb2)
    | (go_at_call 77; (with_reducible refine (HC.out _ D1.out).mono ?_); rintro e w2 ⟨rfl, hb2⟩; have HB2 := Lib.hid hb2; have B2 := Lib.hid (bel2 D1.out hb2); have CB := LS.cells3 (N0.out.below B2.out); clear hb2))
  all_goals
    go_wp2
    go_ret
    first
      | exact ⟨rfl, BP.out _ _ B2.out⟩
      | exact ⟨rfl, HB0.out.trans ((bel_alloc B2.out _).mono HB0.out.size)⟩
set_option maxRecDepth 100000 in
set_option maxHeartbeats 1000000 in
theorem wrenew_ok (A : Ad) (W : Wd) (k i g x : Int) (w : World) (h : WW w A W) (hr : RgO k i g) :
    Calls Tryz.prog 20 #[ptr A.b, .agg #[.int .i64 k, .int .i64 i, .int .u32 g], .int .i64 x] w fun e w' => e = .returned (.int .i64 (W.nE k i g x)) ∧ WW w' A (W.ren k i g x) ∧ WStep A w w' := by
  have B0 := bel_new w (.cells #[.int .i64 k, .int .i64 i, .int .u32 g] 25)
  have HB0 := Lib.hid B0
  have n0 := Bk.new w 25 #[.int .i64 k, .int .i64 i, .int .u32 g]
  have HH := Lib.hid h
  have H := Lib.hid (h.below B0).1
  have N0 := Lib.hid n0
  obtain ⟨b, hb⟩ : ∃ b, decide (LS.IsSpan x) = b := ⟨_, rfl⟩
  have HT := Lib.hid (fun e => h.ok.ren_ne (k := k) (i := i) (g := g) hb e)
  clear h B0
  generalize hw1 : w.alloc (.cells #[.int .i64 k, .int .i64 i, .int .u32 g] 25) = w1 at *
  have HR := Lib.hid hr
  have HBB := Lib.hid hb
  have D1 := Lib.hid (bel_drew (Below.refl w1.heap.size w1))
  have DA : Hid (∀ v, Below w1.heap.size w1 (w1.alloc (.cells #[v] 98)).drew) := fun v => bel_drew (bel_new w1 _)
  have CA : Hid (∀ v, (w1.alloc (.cells #[v] 98)).drew.cell? ⟨w.heap.size, 0, none⟩ = some (.int .i64 k) ∧ (w1.alloc (.cells #[v] 98)).drew.cell? ⟨w.heap.size, 1, none⟩ = some (.int .i64 i) ∧ (w1.alloc (.cells #[v] 98)).drew.cell? ⟨w.heap.size, 2, none⟩ = some (.int .u32 g)) := fun v => LS.cells3 (N0.out.below (DA.out v))
  obtain ⟨o0, o1, o2⟩ := LS.cells3 (N0.out.below D1.out)
  rw [Wd.nE_of hb]
  have HC : Hid (∀ W' : World, Below w1.heap.size w1 W' → Calls Tryz.prog 77 #[ptr A.b, .agg #[.int .i64 k, .int .i64 i, .int .u32 g], .bool b] W' fun e w' => e = .returned (.tuple #[.agg #[.pointer (if W.hE k i g b = 0 then some ⟨A.d, 0, none⟩ else none)], .int .i64 (W.hE k i g b)]) ∧ Below W'.heap.size W' w') := fun W' hB => hold_ok A W k i g b W' (H.out.below hB).1 HR.out
  obtain ⟨E, hE⟩ : ∃ E, W.hE k i g b = E := ⟨_, rfl⟩
  rw [hE] at HC HT
  rw [hE]
  clear hE hr hb n0
  go_enter Tryz.func20, Tryz.ntmps20
  go_wp2_with fail
  have LT := Lib.hid (show w.heap.size < w1.heap.size from N0.out.lt)
  obtain ⟨V, hV⟩ : ∃ V : Option Addr, (if E = 0 then some ⟨A.d, 0, none⟩ else none) = V := ⟨_, rfl⟩
  rw [hV] at HC
  have HV := Lib.hid hV
  clear hV
  have KP : Hid (∀ (W' : World) (v : Value), Below w1.heap.size w1 W' → (W'.setCell ⟨w1.heap.size, 0, none⟩ v).cell? ⟨w.heap.size, 0, none⟩ = some (.int .i64 k) ∧ (W'.setCell ⟨w1.heap.size, 0, none⟩ v).cell? ⟨w.heap.size, 1, none⟩ = some (.int .i64 i) ∧ (W'.setCell ⟨w1.heap.size, 0, none⟩ v).cell? ⟨w.heap.size, 2, none⟩ = some (.int .u32 g)) := fun W' v hB => LS.cells3 ((N0.out.below hB).kept ((Kept.refl (· = w1.heap.size) W').put1 0 v) (fun e => by have := LT.out; omega))
  go_region_held3 (fun W => W.cell? ⟨w.heap.size, 0, none⟩ = some (.int .i64 k) ∧ W.cell? ⟨w.heap.size, 1, none⟩ = some (.int .i64 i) ∧ W.cell? ⟨w.heap.size, 2, none⟩ = some (.int .u32 g)) (first | exact ⟨o0, o1, o2⟩ | exact CA.out _ | (with_reducible exact CB) | exact LS.cells3 ((N0.out.below B2.out).up _) | exact KP.out _ _ B2.out) (first
    | (go_at_call 78; refine (wspan_is x b _ HBB.out).mono ?_; rintro e w' ⟨rfl, rfl⟩)
    | (go_at_call 77; (with_reducible refine (HC.out _ (DA.out (.pointer none))).mono ?_); rintro e w2 ⟨rfl, hb2⟩; have HB2 := Lib.hid hb2; have B2 := Lib.hid (bel2 (DA.out _) hb2); have CB := LS.cells3 (N0.out.below B2.out); have HX := Lib.hid ((show Bk (w1.alloc (.cells #[.pointer none] 98)).drew w1.heap.size 98 #[.pointer none] from Bk.new w1 _ _).below hb2); have x0 := (cell1 HX.out).1; have x1 := (cell1 HX.out).2; clear hb2)
    | (go_at_call 77; (with_reducible refine (HC.out _ D1.out).mono ?_); rintro e w2 ⟨rfl, hb2⟩; have HB2 := Lib.hid hb2; have B2 := Lib.hid (bel2 D1.out hb2); have CB := LS.cells3 (N0.out.below B2.out); clear hb2))
  · clear o0 o1 o2
    have BF : Hid (Below w1.heap.size w1 (w2.alloc (.cells #[.pointer V] 98))) := bel_alloc B2.out _
    have NF : Hid (Bk (w2.alloc (.cells #[.pointer V] 98)) w2.heap.size 98 #[.pointer V]) := Bk.new w2 _ _
    generalize w2.alloc (.cells #[.pointer V] 98) = w3 at *
    have H3 := Lib.hid (H.out.below BF.out).1
    have M3 := Lib.hid (N0.out.below BF.out)
    by_cases hz : E = 0
    · subst hz
      obtain rfl : some ⟨A.d, 0, none⟩ = V := by have := HV.out; rwa [if_pos rfl] at this
      have R3 := Lib.hid (bel_drew (Below.refl w3.heap.size w3))
      obtain ⟨o0, o1, o2⟩ := LS.cells3 (M3.out.below R3.out)
      obtain ⟨x0, _⟩ := cell1 (NF.out.below R3.out)
      have H4 := Lib.hid (H3.out.below R3.out).1
      have hc := H4.out.c0
      have h5 := H4.out.p5
      unfold ptr at *
      have FIN : Hid (Calls Tryz.prog 79 #[.pointer (some ⟨A.d, 0, none⟩), .agg #[.int .i64 k, .int .i64 i, .int .u32 g], .int .i64 x, .int .i64 W.T] w3.drew fun e w' => e = .returned (.int .i64 (W.D.rE k i g x W.T)) ∧ (WW w' A (W.ren k i g x) ∧ WStep A w w') ∧ w'.cell? ⟨A.b, 0, none⟩ = some (.pointer (some ⟨A.p, 0, none⟩)) ∧ w'.cell? ⟨A.p, 5, none⟩ = some (.int .i64 W.T) ∧ w'.cell? ⟨w2.heap.size, 0, none⟩ = some (.pointer (some ⟨A.d, 0, none⟩)) ∧ w'.cell? ⟨w.heap.size, 0, none⟩ = some (.int .i64 k) ∧ w'.cell? ⟨w.heap.size, 1, none⟩ = some (.int .i64 i) ∧ w'.cell? ⟨w.heap.size, 2, none⟩ = some (.int .u32 g)) := by
        refine (LS.drenew_ok A.d A.dk A.da W.D k i g x W.T HR.out _ H4.out.hD).mono ?_
        rintro e w' ⟨rfl, q1, q2⟩
        obtain ⟨y1, y2⟩ := H4.out.stepD q2 q1 (HH.out.ok.ren k i g x)
        have b0 : Below w.heap.size w w3.drew := HB0.out.trans ((bel2 BF.out R3.out).mono HB0.out.size)
        exact ⟨rfl, ⟨y1, (HH.out.quiet b0).trans y2⟩, y1.c0, y1.p5, (cell1 (H4.out.hD.keep (NF.out.below R3.out) q2)).1, LS.cells3 (H4.out.hD.keep (M3.out.below R3.out) q2)⟩
      generalize hZ : W.D.rE k i g x W.T = Z at *
      have HZZ := Lib.hid hZ
      clear hZ
      generalize hTT : W.T = T at *
      have HTT := Lib.hid hTT
      clear hTT
      go_wp2
      go_region_held3 (fun W => W.cell? ⟨A.b, 0, none⟩ = some (.pointer (some ⟨A.p, 0, none⟩)) ∧ W.cell? ⟨A.p, 5, none⟩ = some (.int .i64 T) ∧ W.cell? ⟨w2.heap.size, 0, none⟩ = some (.pointer (some ⟨A.d, 0, none⟩)) ∧ W.cell? ⟨w.heap.size, 0, none⟩ = some (.int .i64 k) ∧ W.cell? ⟨w.heap.size, 1, none⟩ = some (.int .i64 i) ∧ W.cell? ⟨w.heap.size, 2, none⟩ = some (.int .u32 g)) (first | exact ⟨hc, h5, x0, o0, o1, o2⟩ | (with_reducible exact hz4)) (first
        | (go_at_call 79; refine FIN.out.mono ?_; rintro e w4 ⟨rfl, hfin, hz4⟩; have HF := Lib.hid hfin; clear hfin))
      all_goals
        go_wp2
        go_ret
        exact ⟨by rw [HTT.out, HZZ.out]; rfl, HF.out⟩
    · have hz2 : (E == 0) = false := beq_eq_false_iff_ne.2 hz
      have HZ := Lib.hid hz
      have b0 : Hid (Below w.heap.size w w3) := HB0.out.trans (BF.out.mono HB0.out.size)
      clear hz
      go_wp2
      go_ret
      refine ⟨rfl, ?_, HH.out.quiet b0.out⟩
      rw [HT.out HZ.out]
      exact (HH.out.below b0.out).1
  · clear o0 o1 o2 x0 x1
    have BF : Hid (Below w1.heap.size w1 (w2.setCell ⟨w1.heap.size, 0, none⟩ (.pointer V))) := B2.out.trans (((Kept.refl (· = w1.heap.size) w2).put1 0 _).below B2.out.size fun k e => by subst e; exact Nat.le_refl _)
    have NF : Hid (Bk (w2.setCell ⟨w1.heap.size, 0, none⟩ (.pointer V)) w1.heap.size 98 #[.pointer V]) := bk1 HX.out
    generalize w2.setCell ⟨w1.heap.size, 0, none⟩ (.pointer V) = w3 at *
    have H3 := Lib.hid (H.out.below BF.out).1
    have M3 := Lib.hid (N0.out.below BF.out)
    by_cases hz : E = 0
    · subst hz
      obtain rfl : some ⟨A.d, 0, none⟩ = V := by have := HV.out; rwa [if_pos rfl] at this
      have R3 := Lib.hid (bel_drew (Below.refl w3.heap.size w3))
      obtain ⟨o0, o1, o2⟩ := LS.cells3 (M3.out.below R3.out)
      obtain ⟨x0, _⟩ := cell1 (NF.out.below R3.out)
      have H4 := Lib.hid (H3.out.below R3.out).1
      have hc := H4.out.c0
      have h5 := H4.out.p5
      unfold ptr at *
      have FIN : Hid (Calls Tryz.prog 79 #[.pointer (some ⟨A.d, 0, none⟩), .agg #[.int .i64 k, .int .i64 i, .int .u32 g], .int .i64 x, .int .i64 W.T] w3.drew fun e w' => e = .returned (.int .i64 (W.D.rE k i g x W.T)) ∧ (WW w' A (W.ren k i g x) ∧ WStep A w w') ∧ w'.cell? ⟨A.b, 0, none⟩ = some (.pointer (some ⟨A.p, 0, none⟩)) ∧ w'.cell? ⟨A.p, 5, none⟩ = some (.int .i64 W.T) ∧ w'.cell? ⟨w1.heap.size, 0, none⟩ = some (.pointer (some ⟨A.d, 0, none⟩)) ∧ w'.cell? ⟨w.heap.size, 0, none⟩ = some (.int .i64 k) ∧ w'.cell? ⟨w.heap.size, 1, none⟩ = some (.int .i64 i) ∧ w'.cell? ⟨w.heap.size, 2, none⟩ = some (.int .u32 g)) := by
        refine (LS.drenew_ok A.d A.dk A.da W.D k i g x W.T HR.out _ H4.out.hD).mono ?_
        rintro e w' ⟨rfl, q1, q2⟩
        obtain ⟨y1, y2⟩ := H4.out.stepD q2 q1 (HH.out.ok.ren k i g x)
        have b0 : Below w.heap.size w w3.drew := HB0.out.trans ((bel2 BF.out R3.out).mono HB0.out.size)
        exact ⟨rfl, ⟨y1, (HH.out.quiet b0).trans y2⟩, y1.c0, y1.p5, (cell1 (H4.out.hD.keep (NF.out.below R3.out) q2)).1, LS.cells3 (H4.out.hD.keep (M3.out.below R3.out) q2)⟩
      generalize hZ : W.D.rE k i g x W.T = Z at *
      have HZZ := Lib.hid hZ
      clear hZ
      generalize hTT : W.T = T at *
      have HTT := Lib.hid hTT
      clear hTT
      go_wp2
      go_region_held3 (fun W => W.cell? ⟨A.b, 0, none⟩ = some (.pointer (some ⟨A.p, 0, none⟩)) ∧ W.cell? ⟨A.p, 5, none⟩ = some (.int .i64 T) ∧ W.cell? ⟨w1.heap.size, 0, none⟩ = some (.pointer (some ⟨A.d, 0, none⟩)) ∧ W.cell? ⟨w.heap.size, 0, none⟩ = some (.int .i64 k) ∧ W.cell? ⟨w.heap.size, 1, none⟩ = some (.int .i64 i) ∧ W.cell? ⟨w.heap.size, 2, none⟩ = some (.int .u32 g)) (first | exact ⟨hc, h5, x0, o0, o1, o2⟩ | (with_reducible exact hz4)) (first
        | (go_at_call 79; refine FIN.out.mono ?_; rintro e w4 ⟨rfl, hfin, hz4⟩; have HF := Lib.hid hfin; clear hfin))
      all_goals
        go_wp2
        go_ret
        exact ⟨by rw [HTT.out, HZZ.out]; rfl, HF.out⟩
    · have hz2 : (E == 0) = false := beq_eq_false_iff_ne.2 hz
      have HZ := Lib.hid hz
      have b0 : Hid (Below w.heap.size w w3) := HB0.out.trans (BF.out.mono HB0.out.size)
      clear hz
      go_wp2
      go_ret
      refine ⟨rfl, ?_, HH.out.quiet b0.out⟩
      rw [HT.out HZ.out]
      exact (HH.out.below b0.out).1
  · clear o0 o1 o2 x0 x1
    have BF : Hid (Below w1.heap.size w1 (w2.setCell ⟨w1.heap.size, 0, none⟩ (.pointer V))) := B2.out.trans (((Kept.refl (· = w1.heap.size) w2).put1 0 _).below B2.out.size fun k e => by subst e; exact Nat.le_refl _)
    have NF : Hid (Bk (w2.setCell ⟨w1.heap.size, 0, none⟩ (.pointer V)) w1.heap.size 98 #[.pointer V]) := bk1 HX.out
    generalize w2.setCell ⟨w1.heap.size, 0, none⟩ (.pointer V) = w3 at *
    have H3 := Lib.hid (H.out.below BF.out).1
    have M3 := Lib.hid (N0.out.below BF.out)
    by_cases hz : E = 0
    · subst hz
      obtain rfl : some ⟨A.d, 0, none⟩ = V := by have := HV.out; rwa [if_pos rfl] at this
      have R3 := Lib.hid (bel_drew (Below.refl w3.heap.size w3))
      obtain ⟨o0, o1, o2⟩ := LS.cells3 (M3.out.below R3.out)
      obtain ⟨x0, _⟩ := cell1 (NF.out.below R3.out)
      have H4 := Lib.hid (H3.out.below R3.out).1
      have hc := H4.out.c0
      have h5 := H4.out.p5
      unfold ptr at *
      have FIN : Hid (Calls Tryz.prog 79 #[.pointer (some ⟨A.d, 0, none⟩), .agg #[.int .i64 k, .int .i64 i, .int .u32 g], .int .i64 x, .int .i64 W.T] w3.drew fun e w' => e = .returned (.int .i64 (W.D.rE k i g x W.T)) ∧ (WW w' A (W.ren k i g x) ∧ WStep A w w') ∧ w'.cell? ⟨A.b, 0, none⟩ = some (.pointer (some ⟨A.p, 0, none⟩)) ∧ w'.cell? ⟨A.p, 5, none⟩ = some (.int .i64 W.T) ∧ w'.cell? ⟨w1.heap.size, 0, none⟩ = some (.pointer (some ⟨A.d, 0, none⟩)) ∧ w'.cell? ⟨w.heap.size, 0, none⟩ = some (.int .i64 k) ∧ w'.cell? ⟨w.heap.size, 1, none⟩ = some (.int .i64 i) ∧ w'.cell? ⟨w.heap.size, 2, none⟩ = some (.int .u32 g)) := by
        refine (LS.drenew_ok A.d A.dk A.da W.D k i g x W.T HR.out _ H4.out.hD).mono ?_
        rintro e w' ⟨rfl, q1, q2⟩
        obtain ⟨y1, y2⟩ := H4.out.stepD q2 q1 (HH.out.ok.ren k i g x)
        have b0 : Below w.heap.size w w3.drew := HB0.out.trans ((bel2 BF.out R3.out).mono HB0.out.size)
        exact ⟨rfl, ⟨y1, (HH.out.quiet b0).trans y2⟩, y1.c0, y1.p5, (cell1 (H4.out.hD.keep (NF.out.below R3.out) q2)).1, LS.cells3 (H4.out.hD.keep (M3.out.below R3.out) q2)⟩
      generalize hZ : W.D.rE k i g x W.T = Z at *
      have HZZ := Lib.hid hZ
      clear hZ
      generalize hTT : W.T = T at *
      have HTT := Lib.hid hTT
      clear hTT
      go_wp2
      go_region_held3 (fun W => W.cell? ⟨A.b, 0, none⟩ = some (.pointer (some ⟨A.p, 0, none⟩)) ∧ W.cell? ⟨A.p, 5, none⟩ = some (.int .i64 T) ∧ W.cell? ⟨w1.heap.size, 0, none⟩ = some (.pointer (some ⟨A.d, 0, none⟩)) ∧ W.cell? ⟨w.heap.size, 0, none⟩ = some (.int .i64 k) ∧ W.cell? ⟨w.heap.size, 1, none⟩ = some (.int .i64 i) ∧ W.cell? ⟨w.heap.size, 2, none⟩ = some (.int .u32 g)) (first | exact ⟨hc, h5, x0, o0, o1, o2⟩ | (with_reducible exact hz4)) (first
        | (go_at_call 79; refine FIN.out.mono ?_; rintro e w4 ⟨rfl, hfin, hz4⟩; have HF := Lib.hid hfin; clear hfin))
      all_goals
        go_wp2
        go_ret
        exact ⟨by rw [HTT.out, HZZ.out]; rfl, HF.out⟩
    · have hz2 : (E == 0) = false := beq_eq_false_iff_ne.2 hz
      have HZ := Lib.hid hz
      have b0 : Hid (Below w.heap.size w w3) := HB0.out.trans (BF.out.mono HB0.out.size)
      clear hz
      go_wp2
      go_ret
      refine ⟨rfl, ?_, HH.out.quiet b0.out⟩
      rw [HT.out HZ.out]
      exact (HH.out.below b0.out).1
end Go.Proofs.YtpinmiplefidpaaGreatDoor
