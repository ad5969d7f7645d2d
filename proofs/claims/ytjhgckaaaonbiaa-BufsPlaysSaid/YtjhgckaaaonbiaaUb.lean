/- The contracts of the program's New, Bytes, Unpin, Len, Copy on pools. -/
import Derived.Test.YtjhgckaaaonbiaaUa
import Derived.Deep.WholeRow
namespace Go.Proofs.Ytjhgckaaaonbiaa
open Go.RowKit

/-! ### New -/
theorem zero_space (w : World) : (zeroValue 73).run Try.prog w = .ok (.agg (scells (.pointer none) 0 (fun _ => 0))) w := by kernel_rfl
theorem scells_ne (v : Value) (r : Nat) (m : Nat → Nat) : ¬ scells v r m = #[] := fun h => by have := congrArg Array.size h; rw [scells_size] at this; simp at this
/-- A new pool. -/
def PNew (P : Po) (w : World) (b : Nat) (w' : World) : Prop := ∃ s k, PW w' b s k P ∧ (∀ g, PFoot b s k g → w.heap.size ≤ g) ∧ Below w.heap.size w w'
theorem pnew_fin {w W : World} {P : Po} {k : Nat} (hP : P.Ok) (hB : Below w.heap.size w W) (hk : w.heap.size ≤ k) (hT : TabW W k P.t) :
    PNew P w (W.heap.size + 1) ((W.alloc (.cells (scells (.pointer (some ⟨k, 0, none⟩)) P.room P.m) 73)).alloc (.cells #[.pointer (some ⟨W.heap.size, 0, none⟩)] 46)) := by
  have b1 := Bk.new W 73 (scells (.pointer (some ⟨k, 0, none⟩)) P.room P.m)
  have b2 := Bk.new (W.alloc (.cells (scells (.pointer (some ⟨k, 0, none⟩)) P.room P.m) 73)) 46 #[.pointer (some ⟨W.heap.size, 0, none⟩)]
  rw [World.size_alloc] at b2
  have hs := hB.size
  have hb2 : Below W.heap.size W ((W.alloc (.cells (scells (.pointer (some ⟨k, 0, none⟩)) P.room P.m) 73)).alloc (.cells #[.pointer (some ⟨W.heap.size, 0, none⟩)] 46)) := ((Below.refl _ _).alloc (Nat.le_refl _) _).alloc (by simp) _
  refine ⟨W.heap.size, k, ⟨hP, b2, b1.up _, hT.below hb2⟩, ?_, hB.trans (hb2.mono hs)⟩
  rintro x (rfl | rfl | rfl)
  · omega
  · exact hs
  · exact hk
set_option maxRecDepth 100000 in
set_option maxHeartbeats 1000000 in
theorem pnew_ok (n r g : Nat) (w : World) (h1 : 1 ≤ n) (h2 : n ≤ 64) (h3 : 1 ≤ g) (h4 : g ≤ 4294967295) (h5 : 1 ≤ r) (h6 : r ≤ 16777216) :
    Calls Try.prog 11 #[.int .i64 n, .int .i64 r, .int .u32 g] w fun e w' => ∃ b, e = .returned (.tuple #[.pointer (some ⟨b, 0, none⟩), .int .i64 0]) ∧ PNew (pfresh n r g) w b w' := by
  have hz := zero_space
  obtain ⟨zs, hzs⟩ : ∃ zs, scells (.pointer none) 0 (fun _ => 0) = zs := ⟨_, rfl⟩
  have hsz : zs.size = 66 := by rw [← hzs]; exact scells_size _ _ _
  have hne : ¬ zs = #[] := by rw [← hzs]; exact scells_ne _ _ _
  simp only [hzs] at hz
  have HZ : Hid (∀ v, (zs.setIfInBounds 0 v).setIfInBounds 1 (.int .i64 r) = scells v r (fun _ => 0)) := fun v => by rw [← hzs, scells_put_0, scells_put_1]
  have NW := Lib.hid (new_ok n g w h1 (by omega) h3 h4)
  have FIN : Hid (∀ W, Below w.heap.size w W → TabW W w.heap.size (fresh n g) → PNew (pfresh n r g) w (W.heap.size + 1) ((W.alloc (.cells (scells (.pointer (some ⟨w.heap.size, 0, none⟩)) r (fun _ => 0)) 73)).alloc (.cells #[.pointer (some ⟨W.heap.size, 0, none⟩)] 46))) := fun W hB hT => pnew_fin (P := pfresh n r g) (pfresh_ok h1 h2 h3 h4 h6) hB (Nat.le_refl _) hT
  clear hzs
  go_enter Try.func11, Try.ntmps11
  go_wp2_with (go_at_call 26; refine NW.out.mono ?_; rintro e w1 ⟨rfl, hT, hB⟩; have HF := Lib.hid (FIN.out w1 hB hT); clear hT hB)
  go_ret2
  have := HF.out
  rw [← HZ.out] at this
  exact ⟨_, rfl, this⟩
/-- New where the arguments are not possible. -/
def PBad (n r g : Int) : Prop := n < 1 ∨ 64 < n ∨ r < 1 ∨ 16777216 < r ∨ g = 0
theorem pnew_bad (n r g : Int) (w : World) (hn : I64 n) (hr : I64 r) (hg : 0 ≤ g ∧ g ≤ 4294967295) (h : PBad n r g) :
    Calls Try.prog 11 #[.int .i64 n, .int .i64 r, .int .u32 g] w fun e w' => e = .returned (.tuple #[.pointer none, .int .i64 2]) ∧ w = w' := by
  obtain ⟨n0, n1⟩ := hn
  obtain ⟨r0, r1⟩ := hr
  obtain ⟨g0, g1⟩ := hg
  by_cases c : 64 < n
  · go_enter Try.func11, Try.ntmps11
    go_wp2
    go_ret2
    exact ⟨rfl, rfl⟩
  · by_cases c2 : r < 1
    · go_enter Try.func11, Try.ntmps11
      go_wp2
      go_ret2
      exact ⟨rfl, rfl⟩
    · by_cases c3 : 16777216 < r
      · go_enter Try.func11, Try.ntmps11
        go_wp2
        go_ret2
        exact ⟨rfl, rfl⟩
      · have NW : Hid (Calls Try.prog 26 #[.int .i64 n, .int .u32 g] w fun e w' => e = .returned (.tuple #[.pointer none, .int .i64 2]) ∧ w = w') := by
          by_cases c1 : n < 1
          · exact new_arg1 n g w (.inl c1)
          · obtain rfl : g = 0 := by unfold PBad at h; omega
            exact new_arg2 n w (by omega) (by omega)
        go_enter Try.func11, Try.ntmps11
        go_wp2_with (go_at_call 26; refine NW.out.mono ?_; rintro e w1 ⟨rfl, rfl⟩)
        go_ret2
        exact ⟨rfl, rfl⟩

/-! ### Bytes -/
def BytesV (x E : Int) (w : World) (e : Ending) (w' : World) : Prop := e = .returned (.tuple #[.int .i64 x, .int .i64 E]) ∧ Below w.heap.size w w'
theorem pbytes_core (v : Value) (x y z E : Int) (w : World) (hE : (E != 0) = true) (hh : ∀ W : World, Below w.heap.size w W → Calls Try.prog 37 #[v, .agg #[.int .i64 x, .int .i64 y, .int .u32 z]] W (HeldV 0 0 E W)) :
    Calls Try.prog 20 #[v, .agg #[.int .i64 x, .int .i64 y, .int .u32 z]] w (BytesV 0 E w) := by
  have HH := Lib.hid hh
  clear hh
  go_enter Try.func20, Try.ntmps20
  go_wp2_with fail
  refine (HH.out _ ((Below.refl _ w).alloc (Nat.le_refl _) _)).mono ?_
  rintro e w1 ⟨rfl, hb⟩
  have HB := Lib.hid hb
  clear hb
  go_wp2
  go_ret2
  exact ⟨rfl, bel_alloc (bel2 ((Below.refl _ w).alloc (Nat.le_refl _) _) HB.out) _⟩
theorem pbytes_inv (p : Option Addr) (x y z : Int) (w : World) (h : PInv w p) : Calls Try.prog 20 #[.pointer p, .agg #[.int .i64 x, .int .i64 y, .int .u32 z]] w (BytesV 0 1 w) :=
  pbytes_core _ x y z 1 w (by decide) fun W hW => pheld_inv p x y z W (h.below hW)
set_option maxHeartbeats 1000000 in
theorem pbytes_yes (b s k : Nat) (P : Po) (x : Int) (i : Nat) (z : Int) (w : World) (h : PW w b s k P) (hi : i < 64) (hc : P.chk x i z = 0) : Calls Try.prog 20 #[.pointer (some ⟨b, 0, none⟩), .agg #[.int .i64 x, .int .i64 i, .int .u32 z]] w (BytesV (P.m i) 0 w) := by
  have HH : Hid (∀ W : World, Below w.heap.size w W → Calls Try.prog 37 #[.pointer (some ⟨b, 0, none⟩), .agg #[.int .i64 x, .int .i64 i, .int .u32 z]] W (HeldV i z 0 W)) := fun W hW => pheld_yes b s k P x i z W (h.below hW) hc
  have HS : Hid (∀ W : World, Below w.heap.size w W → W.cell? ⟨b, 0, none⟩ = some (.pointer (some ⟨s, 0, none⟩)) ∧ W.cell? ⟨s, 2 + i, none⟩ = some (.int .i64 (P.m i)) ∧ b < W.heap.size ∧ s < W.heap.size) := fun W hW => ⟨(h.below hW).c0, (h.below hW).sm hi, (h.below hW).hb.lt, (h.below hW).hs.lt⟩
  clear h hc
  go_enter Try.func20, Try.ntmps20
  go_wp2_with fail
  refine (HH.out _ ((Below.refl _ w).alloc (Nat.le_refl _) _)).mono ?_
  rintro e w1 ⟨rfl, hb⟩
  have HB := Lib.hid (bel2 ((Below.refl _ w).alloc (Nat.le_refl _) _) hb)
  obtain ⟨c1, c2, c3, c4⟩ := HS.out w1 HB.out
  clear hb
  go_wp2
  go_quiet (fail)
  go_wp2
  go_ret2
  exact ⟨rfl, bel_drewN (bel_alloc HB.out _) _⟩
theorem pbytes_any (b s k : Nat) (P : Po) (x y z : Int) (w : World) (h : PW w b s k P) : Calls Try.prog 20 #[.pointer (some ⟨b, 0, none⟩), .agg #[.int .i64 x, .int .i64 y, .int .u32 z]] w (BytesV (P.size x y z) (P.chk x y z) w) := by
  by_cases hc : P.chk x y z = 0
  · obtain ⟨rfl, i, rfl, h1, h2, h3⟩ := Po.chk_pinned hc
    have e : P.size 2 i z = P.m i := by unfold Po.size; rw [if_pos hc, Int.toNat_natCast]
    rw [e, hc]
    exact pbytes_yes b s k P 2 i z w h (by have := h.ok.hi; omega) hc
  · have e : P.size x y z = 0 := if_neg hc
    rw [e]
    exact pbytes_core _ x y z _ w (by simpa using hc) fun W hW => pheld_no b s k P x y z W (h.below hW) hc

/-! ### Unpin -/
def UnV (b s k : Nat) (P : Po) (E : Int) (w : World) (e : Ending) (w' : World) : Prop := e = .returned (.int .i64 E) ∧ PW w' b s k P ∧ Kept (· = k) w w'
theorem punpin_core (v : Value) (x y z E : Int) (w : World) (hE : (E != 0) = true) (hh : ∀ W : World, Below w.heap.size w W → Calls Try.prog 37 #[v, .agg #[.int .i64 x, .int .i64 y, .int .u32 z]] W (HeldV 0 0 E W)) :
    Calls Try.prog 16 #[v, .agg #[.int .i64 x, .int .i64 y, .int .u32 z]] w fun e w' => e = .returned (.int .i64 E) ∧ Below w.heap.size w w' := by
  have HH := Lib.hid hh
  clear hh
  go_enter Try.func16, Try.ntmps16
  go_wp2_with fail
  refine (HH.out _ ((Below.refl _ w).alloc (Nat.le_refl _) _)).mono ?_
  rintro e w1 ⟨rfl, hb⟩
  have HB := Lib.hid hb
  clear hb
  go_wp2
  go_ret
  exact ⟨rfl, bel_alloc (bel2 ((Below.refl _ w).alloc (Nat.le_refl _) _) HB.out) _⟩
theorem punpin_inv (p : Option Addr) (x y z : Int) (w : World) (h : PInv w p) : Calls Try.prog 16 #[.pointer p, .agg #[.int .i64 x, .int .i64 y, .int .u32 z]] w fun e w' => e = .returned (.int .i64 1) ∧ Below w.heap.size w w' :=
  punpin_core _ x y z 1 w (by decide) fun W hW => pheld_inv p x y z W (h.below hW)
set_option maxHeartbeats 2000000 in
theorem punpin_yes (b s k : Nat) (P : Po) (x y z : Int) (w : World) (h : PW w b s k P) (hc : P.chk x y z = 0) : Calls Try.prog 16 #[.pointer (some ⟨b, 0, none⟩), .agg #[.int .i64 x, .int .i64 y, .int .u32 z]] w (UnV b s k (P.unpin x y z) 0 w) := by
  have HH : Hid (∀ W : World, Below w.heap.size w W → Calls Try.prog 37 #[.pointer (some ⟨b, 0, none⟩), .agg #[.int .i64 x, .int .i64 y, .int .u32 z]] W (HeldV y z 0 W)) := fun W hW => pheld_yes b s k P x y z W (h.below hW) hc
  have HS : Hid (∀ W : World, Below w.heap.size w W → W.cell? ⟨b, 0, none⟩ = some (.pointer (some ⟨s, 0, none⟩)) ∧ W.cell? ⟨s, 0, none⟩ = some (.pointer (some ⟨k, 0, none⟩))) := fun W hW => ⟨(h.below hW).c0, (h.below hW).s0⟩
  have GV : Hid (∀ W, Below w.heap.size w W → Calls Try.prog 38 #[.pointer (some ⟨k, 0, none⟩), .agg #[.int .i64 y, .int .u32 z]] W fun e w' => e = .returned (.int .i64 0) ∧ PW w' b s k (P.unpin x y z) ∧ Kept (· = k) w w' ∧ Kept (· = k) W w') := fun W hW => by
    obtain ⟨rfl, i, rfl, h1, h2, h3⟩ := Po.chk_pinned hc
    refine (give_ok k P.t i z W (h.below hW).tab h1 h2 h3).mono ?_
    rintro e w' ⟨rfl, hT, hk⟩
    have e1 : P.unpin 2 i z = P.gave i := by unfold Po.unpin; rw [if_pos hc, Int.toNat_natCast]
    rw [e1]
    exact ⟨rfl, ⟨h.ok.gave i, (h.below hW).hb.kept hk h.bk, (h.below hW).hs.kept hk h.sk, hT⟩, (Kept.of_below hW).trans hk, hk⟩
  have KT : Hid (k < w.heap.size ∧ b ≠ k ∧ s ≠ k) := ⟨h.tab.bt, h.bk, h.sk⟩
  clear h hc
  go_enter Try.func16, Try.ntmps16
  go_wp2_with fail
  refine (HH.out _ ((Below.refl _ w).alloc (Nat.le_refl _) _)).mono ?_
  rintro e w1 ⟨rfl, hb⟩
  obtain ⟨w4, hw4⟩ : ∃ w4, w1.alloc (.cells #[.int .i64 y, .int .u32 z] 80) = w4 := ⟨_, rfl⟩
  have B1 := bel2 ((Below.refl _ w).alloc (Nat.le_refl _) _) hb
  have HB4 : Hid (Below w.heap.size w w4) := by rw [← hw4]; exact bel_alloc B1 _
  have n4 : Bk w4 w1.heap.size 80 #[.int .i64 y, .int .u32 z] := by rw [← hw4]; exact Bk.new w1 _ _
  have s3 := n4.cell 0
  have s4 := n4.cell 1
  have HN := Lib.hid (And.intro B1.size n4)
  simp only [List.getElem?_toArray, List.getElem?_cons_zero, List.getElem?_cons_succ] at s3 s4
  have HW4 := Lib.hid hw4
  obtain ⟨s1, s2⟩ := HS.out w4 HB4.out
  clear hb B1 n4 hw4
  go_wp2
  rw [HW4.out]
  go_region_held3 (fun W => W.cell? ⟨b, 0, none⟩ = some (.pointer (some ⟨s, 0, none⟩)) ∧ W.cell? ⟨s, 0, none⟩ = some (.pointer (some ⟨k, 0, none⟩)) ∧ W.cell? ⟨w1.heap.size, 0, none⟩ = some (.int .i64 y) ∧ W.cell? ⟨w1.heap.size, 1, none⟩ = some (.int .u32 z)) (first | (exact ⟨s1, s2, s3, s4⟩) | (with_reducible exact hz1)) (first
    | (go_at_call 38; (with_reducible refine (GV.out _ (bel_drew HB4.out)).mono ?_); rintro e w5 ⟨rfl, hp5, hk5, hk6⟩; have hz1 := And.intro hp5.c0 (And.intro hp5.s0 (And.intro (kept_cell hk6 s3 (by have := HN.out.1; have := KT.out.1; omega)) (kept_cell hk6 s4 (by have := HN.out.1; have := KT.out.1; omega)))); have H5 := Lib.hid (And.intro hp5 hk5); clear hp5 hk5 hk6))
  all_goals
    go_wp2
    go_ret
    exact ⟨rfl, H5.out.1, H5.out.2⟩
theorem punpin_any (b s k : Nat) (P : Po) (x y z : Int) (w : World) (h : PW w b s k P) : Calls Try.prog 16 #[.pointer (some ⟨b, 0, none⟩), .agg #[.int .i64 x, .int .i64 y, .int .u32 z]] w (UnV b s k (P.unpin x y z) (P.chk x y z) w) := by
  by_cases hc : P.chk x y z = 0
  · rw [hc]; exact punpin_yes b s k P x y z w h hc
  · have e : P.unpin x y z = P := if_neg hc
    rw [e]
    refine (punpin_core _ x y z _ w (by simpa using hc) fun W hW => pheld_no b s k P x y z W (h.below hW) hc).mono ?_
    rintro e w' ⟨rfl, hb⟩
    exact ⟨rfl, h.below hb, Kept.of_below hb⟩

/-! ### Len -/
theorem plen_no (p : Option Addr) (w : World) (h : PInv w p) : Calls Try.prog 23 #[.pointer p] w fun e w' => e = .returned (.int .i64 0) ∧ w = w' := by
  have H := Lib.hid h
  clear h
  go_enter Try.func23, Try.ntmps23
  go_wp2_with (go_at_call 27; refine (pvalid_no _ _ H.out).mono ?_; rintro e w' ⟨rfl, rfl⟩)
  go_ret
  exact ⟨rfl, rfl⟩
theorem plen_ok (b s k : Nat) (P : Po) (w : World) (h : PW w b s k P) : Calls Try.prog 23 #[.pointer (some ⟨b, 0, none⟩)] w fun e w' => e = .returned (.int .i64 P.t.held.length) ∧ Below w.heap.size w w' := by
  have hc := h.c0
  have h1 := h.s0
  have LN := Lib.hid (len_ok k P.t w h.tab)
  clear h
  go_enter Try.func23, Try.ntmps23
  go_wp2_with (first
    | (go_at_call 27; refine (pvalid_yes _ _ _ hc).mono ?_; rintro e w' ⟨rfl, rfl⟩)
    | (go_at_call 42; refine LN.out.mono ?_; rintro e w1 ⟨rfl, hb⟩; have HB := Lib.hid hb; clear hb))
  go_ret
  exact ⟨rfl, HB.out⟩

/-! ### Copy -/
theorem pcopy_no (p : Option Addr) (w : World) (h : PInv w p) : Calls Try.prog 18 #[.pointer p] w fun e w' => e = .returned (.pointer none) ∧ w = w' := by
  have H := Lib.hid h
  clear h
  go_enter Try.func18, Try.ntmps18
  go_wp2_with (go_at_call 27; refine (pvalid_no _ _ H.out).mono ?_; rintro e w' ⟨rfl, rfl⟩)
  go_ret
  exact ⟨rfl, rfl⟩
theorem pcopy_fin {w w2 : World} {P : Po} {k k' : Nat} (hP : P.Ok) (hB : Below (w.alloc (.cells (scells (.pointer (some ⟨k, 0, none⟩)) P.room P.m) 73)).heap.size (w.alloc (.cells (scells (.pointer (some ⟨k, 0, none⟩)) P.room P.m) 73)) w2)
    (hk : w.heap.size < k') (hT : TabW w2 k' P.t) : PNew P w w2.heap.size ((w2.setCell ⟨w.heap.size, 0, none⟩ (.pointer (some ⟨k', 0, none⟩))).alloc (.cells #[.pointer (some ⟨w.heap.size, 0, none⟩)] 46)) := by
  have b1 := ((box_of hB).put 0 (.pointer (some ⟨k', 0, none⟩)))
  rw [scells_put_0] at b1
  have hs := hB.size
  rw [World.size_alloc] at hs
  have t1 : TabW (w2.setCell ⟨w.heap.size, 0, none⟩ (.pointer (some ⟨k', 0, none⟩))) k' P.t := hT.same (Below.heap_setCell _ _ _ _ (by show k' ≠ w.heap.size; omega))
  have b2 := Bk.new (w2.setCell ⟨w.heap.size, 0, none⟩ (.pointer (some ⟨k', 0, none⟩))) 46 #[.pointer (some ⟨w.heap.size, 0, none⟩)]
  have e1 : (w2.setCell ⟨w.heap.size, 0, none⟩ (.pointer (some ⟨k', 0, none⟩))).heap.size = w2.heap.size := by simp
  rw [e1] at b2
  have B0 : Below w.heap.size w w2 := bel2 ((Below.refl _ w).alloc (Nat.le_refl _) _) hB
  refine ⟨w.heap.size, k', ⟨hP, b2, b1.up _, t1.same (Below.heap_alloc _ _ _ t1.bt)⟩, ?_, (B0.setCell (p := ⟨_, 0, none⟩) (Nat.le_refl _) _).alloc (by simp; omega) _⟩
  rintro g (rfl | rfl | rfl)
  · omega
  · omega
  · omega
set_option maxRecDepth 100000 in
set_option maxHeartbeats 1000000 in
theorem pcopy_ok (b s k : Nat) (P : Po) (w : World) (h : PW w b s k P) : Calls Try.prog 18 #[.pointer (some ⟨b, 0, none⟩)] w fun e w' => ∃ b', e = .returned (.pointer (some ⟨b', 0, none⟩)) ∧ PNew P w b' w' := by
  have hz := zero_space
  obtain ⟨zs, hzs⟩ : ∃ zs, scells (.pointer none) 0 (fun _ => 0) = zs := ⟨_, rfl⟩
  have hsz : zs.size = 66 := by rw [← hzs]; exact scells_size _ _ _
  have hne : ¬ zs = #[] := by rw [← hzs]; exact scells_ne _ _ _
  simp only [hzs] at hz
  obtain ⟨cs, hcs⟩ : ∃ cs, scells (.pointer (some ⟨k, 0, none⟩)) P.room P.m = cs := ⟨_, rfl⟩
  have hcz : cs.size = 66 := by rw [← hcs]; exact scells_size _ _ _
  have hc1 : ∀ v ∈ cs.toList, v.oneCell' = true := by
    rw [← hcs]
    intro v hv
    obtain ⟨j, _, rfl⟩ := List.mem_map.1 (show v ∈ (List.range 66).map (scell (.pointer (some ⟨k, 0, none⟩)) P.room P.m) by simpa [scells] using hv)
    unfold scell
    split
    · rfl
    · split <;> rfl
  have hc2 : cs.all (·.oneCell') = true := by rw [Array.all_eq_true_iff_forall_mem]; intro v hv; exact hc1 v (by simpa using hv)
  have hst := run_storeCells_new (P := Try.prog) w 73 zs cs (by rw [hcz]; kernel_rfl) (by rw [hcz, hsz]) hc2
  have HB : Hid (Bk w s 73 cs) := by rw [← hcs]; exact h.hs
  have hb := h.c0
  have CP : Hid (∀ W n, Below w.heap.size w W → W.heap.size = n → Calls Try.prog 40 #[.pointer (some ⟨k, 0, none⟩)] W fun e w' => e = .returned (.pointer (some ⟨n, 0, none⟩)) ∧ TabW w' n P.t ∧ Below W.heap.size W w') := fun W n hW hn => by rw [← hn]; exact copy_ok k P.t W (h.below hW).tab
  have FIN : Hid (∀ w2, Below (w.alloc (.cells cs 73)).heap.size (w.alloc (.cells cs 73)) w2 → TabW w2 (w.heap.size + 1) P.t → PNew P w w2.heap.size ((w2.setCell ⟨w.heap.size, 0, none⟩ (.pointer (some ⟨w.heap.size + 1, 0, none⟩))).alloc (.cells #[.pointer (some ⟨w.heap.size, 0, none⟩)] 46))) := fun w2 h1 h2 => by
    rw [← hcs] at h1
    exact pcopy_fin h.ok h1 (Nat.lt_succ_self _) h2
  have hq : cs[0]? = some (.pointer (some ⟨k, 0, none⟩)) := by rw [← hcs, scells_at _ _ _ (by omega)]; rfl
  have hq2 : cs[0]'(by omega) = .pointer (some ⟨k, 0, none⟩) := by rw [Array.getElem?_eq_getElem (by omega)] at hq; exact Option.some.inj hq
  clear hzs h hcs hc1 hc2
  have KF : Hid (∀ w2, Below (w.alloc (.cells cs 73)).heap.size (w.alloc (.cells cs 73)) w2 → w2.cell? ⟨w.heap.size, 0, none⟩ = some (.pointer (some ⟨k, 0, none⟩)) ∧ w2.frozen? ⟨w.heap.size, 0, none⟩ = false ∧ w.heap.size < w2.heap.size) := fun w2 h2 => ⟨by rw [(box_of h2).cell]; exact hq, (box_of h2).frozen 0, (box_of h2).lt⟩
  clear hq
  go_enter Try.func18, Try.ntmps18
  go_wp2_with (first
    | (go_at_call 27; refine (pvalid_yes _ s _ hb).mono ?_; rintro e w' ⟨rfl, rfl⟩)
    | (refine wpList_load_row rfl 73 _ rfl s rfl _ cs _ _ HB.out Try.underlying73 rfl (by rw [hcz]; kernel_rfl) ?_)
    | (go_at_call 40; refine (CP.out _ (w.heap.size + 1) ((Below.refl _ w).alloc (Nat.le_refl _) _) (by rw [World.size_alloc])).mono ?_; rintro e w2 ⟨rfl, hT, hB⟩; obtain ⟨c0, f0, l0⟩ := KF.out w2 hB; have HF := Lib.hid (FIN.out w2 hB hT); clear hT hB))
  go_ret
  exact ⟨_, rfl, HF.out⟩
end Go.Proofs.Ytjhgckaaaonbiaa
