/- The contracts of the program's small functions on desks: valid, isSpan, isTime, lease, over, New, Len, Copy. -/
import Derived.Test.YtfemfgpciogbeaaYc
import Derived.BigQuiet
import Derived.Deep.RegionHeld3
import Derived.Deep.WholeRow
import Derived.Shelf.RegionOpen
namespace Go.Proofs.Ytfemfgpciogbeaa
open Go.RowKit

/-! ### valid, isSpan, isTime, lease -/
theorem dvalid_no (p : Option Addr) (w : World) (h : DInv w p) : Calls Try.prog 38 #[.pointer p] w fun e w' => e = .returned (.bool false) ∧ w = w' := by
  rcases h with rfl | ⟨b, rfl, h⟩
  · go_enter Try.func38, Try.ntmps38
    go_wp2
    go_ret
    exact ⟨rfl, rfl⟩
  · have hc : w.cell? ⟨b, 0, none⟩ = some (.pointer none) := h.cell 0
    clear h
    go_enter Try.func38, Try.ntmps38
    go_wp2
    go_ret
    exact ⟨rfl, rfl⟩
theorem dvalid_yes (b k : Nat) (w : World) (hc : w.cell? ⟨b, 0, none⟩ = some (.pointer (some ⟨k, 0, none⟩))) : Calls Try.prog 38 #[.pointer (some ⟨b, 0, none⟩)] w fun e w' => e = .returned (.bool true) ∧ w = w' := by
  go_enter Try.func38, Try.ntmps38
  go_wp2
  go_ret
  exact ⟨rfl, rfl⟩
theorem span_yes (x : Int) (w : World) (h : IsSpan x) : Calls Try.prog 39 #[.int .i64 x] w fun e w' => e = .returned (.bool true) ∧ w = w' := by
  obtain ⟨h1, h2⟩ := h
  go_enter Try.func39, Try.ntmps39
  go_wp2
  go_ret
  exact ⟨rfl, rfl⟩
theorem span_no (x : Int) (w : World) (h : ¬ IsSpan x) : Calls Try.prog 39 #[.int .i64 x] w fun e w' => e = .returned (.bool false) ∧ w = w' := by
  unfold IsSpan at h
  by_cases h1 : x < 1
  · clear h
    go_enter Try.func39, Try.ntmps39
    go_wp2
    go_ret
    exact ⟨rfl, rfl⟩
  · have h2 : 1048576 < x := by omega
    have h3 : 1 ≤ x := by omega
    clear h h1
    go_enter Try.func39, Try.ntmps39
    go_wp2
    go_ret
    exact ⟨by simp; omega, rfl⟩
theorem time_yes (x : Int) (w : World) (h : IsTime x) : Calls Try.prog 40 #[.int .i64 x] w fun e w' => e = .returned (.bool true) ∧ w = w' := by
  obtain ⟨h1, h2⟩ := h
  go_enter Try.func40, Try.ntmps40
  go_wp2
  go_ret
  exact ⟨rfl, rfl⟩
theorem time_no (x : Int) (w : World) (h : ¬ IsTime x) : Calls Try.prog 40 #[.int .i64 x] w fun e w' => e = .returned (.bool false) ∧ w = w' := by
  unfold IsTime at h
  by_cases h1 : x < 0
  · clear h
    go_enter Try.func40, Try.ntmps40
    go_wp2
    go_ret
    exact ⟨rfl, rfl⟩
  · have h2 : 1099511627776 < x := by omega
    have h3 : 0 ≤ x := by omega
    clear h h1
    go_enter Try.func40, Try.ntmps40
    go_wp2
    go_ret
    exact ⟨by simp; omega, rfl⟩
theorem span_is (x : Int) (b : Bool) (w : World) (h : decide (IsSpan x) = b) : Calls Try.prog 39 #[.int .i64 x] w fun e w' => e = .returned (.bool b) ∧ w = w' := by
  cases b with
  | true => exact span_yes x w (by simpa using h)
  | false => exact span_no x w (by simpa using h)
theorem time_is (x : Int) (b : Bool) (w : World) (h : decide (IsTime x) = b) : Calls Try.prog 40 #[.int .i64 x] w fun e w' => e = .returned (.bool b) ∧ w = w' := by
  cases b with
  | true => exact time_yes x w (by simpa using h)
  | false => exact time_no x w (by simpa using h)
theorem lease_ok (i g : Int) (w : World) (_g0 : 0 ≤ g) (_g1 : g ≤ 4294967295) (_i0 : 0 ≤ i) (_i1 : i ≤ 256) :
    Calls Try.prog 42 #[.agg #[.int .i64 i, .int .u32 g]] w fun e w' => e = .returned (.agg #[.int .i64 3, .int .i64 i, .int .u32 g]) ∧ Below w.heap.size w w' := by
  go_enter Try.func42, Try.ntmps42
  go_wp2
  refine bodyPost_ret (v := .agg #[.int .i64 3, .int .i64 i, .int .u32 g]) (by simp [results, Try.results42, go_sem]) rfl ⟨rfl, ?_⟩
  exact ((Below.refl _ _).alloc (Nat.le_refl _) _).alloc (by simp) _

/-! ### over -/
theorem bel_two (w : World) (o q : Obj) : Below w.heap.size w ((w.alloc o).alloc q) := bel_alloc ((Below.refl _ w).alloc (Nat.le_refl _) _) _
theorem over_core (b a i : Nat) (g now : Int) (x : Int) (r : Bool) (w : World) (hi : i < 64) (h1 : w.cell? ⟨b, 1, none⟩ = some (.pointer (some ⟨a, 0, none⟩))) (h2 : w.cell? ⟨a, i, none⟩ = some (.int .i64 x)) (hr : decide (x ≤ now) = r) :
    Calls Try.prog 49 #[.pointer (some ⟨b, 0, none⟩), .agg #[.int .i64 i, .int .u32 g], .int .i64 now] w fun e w' => e = .returned (.bool r) ∧ Below w.heap.size w w' := by
  have hbl : b < w.heap.size := World.block_lt_of_cell? _ _ h1
  have hal : a < w.heap.size := World.block_lt_of_cell? _ _ h2
  have hiz : (i : Int) < 64 := by omega
  have c1 := cell_keeps ((Below.refl _ w).alloc (Nat.le_refl _) (.cells #[.int .i64 i, .int .u32 g] 86)) h1
  have c2 := cell_keeps ((Below.refl _ w).alloc (Nat.le_refl _) (.cells #[.int .i64 i, .int .u32 g] 86)) h2
  clear h1 h2
  have HR := Lib.hid hr
  clear hr
  go_enter Try.func49, Try.ntmps49
  go_wp2
  go_quiet (fail)
  go_wp2
  go_ret
  exact ⟨by rw [← HR.out]; rfl, bel_drewN ((Below.refl _ _).alloc (Nat.le_refl _) _) _⟩

/-! ### New -/
theorem zero_times (w : World) : (zeroValue 78).run Try.prog w = .ok (.agg (ucells (fun _ => 0))) w := by kernel_rfl
theorem ucells_ne (u : Nat → Nat) : ¬ ucells u = #[] := fun h => by have := congrArg Array.size h; rw [ucells_size] at this; simp at this
/-- A new desk. -/
def DNew (D : Dk) (w : World) (b : Nat) (w' : World) : Prop := ∃ k a, DkW w' b k a D ∧ (∀ g, DFoot b k a g → w.heap.size ≤ g) ∧ Below w.heap.size w w'
theorem dnew_fin {w W : World} {D : Dk} {k : Nat} (hD : D.Ok) (hB : Below w.heap.size w W) (hk : w.heap.size ≤ k) (hT : TabW W k D.t) :
    DNew D w (W.heap.size + 1) ((W.alloc (.cells (ucells D.u) 78)).alloc (.cells #[.pointer (some ⟨k, 0, none⟩), .pointer (some ⟨W.heap.size, 0, none⟩)] 54)) := by
  have b1 := Bk.new W 78 (ucells D.u)
  have b2 := Bk.new (W.alloc (.cells (ucells D.u) 78)) 54 #[.pointer (some ⟨k, 0, none⟩), .pointer (some ⟨W.heap.size, 0, none⟩)]
  rw [World.size_alloc] at b2
  have hs := hB.size
  have hb2 := bel_two W (.cells (ucells D.u) 78) (.cells #[.pointer (some ⟨k, 0, none⟩), .pointer (some ⟨W.heap.size, 0, none⟩)] 54)
  refine ⟨k, W.heap.size, ⟨hD, b2, b1.up _, hT.below hb2⟩, ?_, hB.trans (hb2.mono hs)⟩
  rintro x (rfl | rfl | rfl)
  · omega
  · exact hk
  · exact hs
set_option maxRecDepth 100000 in
set_option maxHeartbeats 1000000 in
theorem dnew_ok (n g : Nat) (w : World) (h1 : 1 ≤ n) (h2 : n ≤ 64) (h3 : 1 ≤ g) (h4 : g ≤ 4294967295) :
    Calls Try.prog 11 #[.int .i64 n, .int .u32 g] w fun e w' => ∃ b, e = .returned (.tuple #[.pointer (some ⟨b, 0, none⟩), .int .i64 0]) ∧ DNew (dfresh n g) w b w' := by
  have hz := zero_times
  obtain ⟨zs, hzs⟩ : ∃ zs, ucells (fun _ => 0) = zs := ⟨_, rfl⟩
  have hsz : zs.size = 64 := by rw [← hzs]; exact ucells_size _
  have hne : ¬ zs = #[] := by rw [← hzs]; exact ucells_ne _
  simp only [hzs] at hz
  have NW := Lib.hid (new_ok n g w h1 (by omega) h3 h4)
  have FIN : Hid (∀ W, Below w.heap.size w W → TabW W w.heap.size (fresh n g) → DNew (dfresh n g) w (W.heap.size + 1) ((W.alloc (.cells zs 78)).alloc (.cells #[.pointer (some ⟨w.heap.size, 0, none⟩), .pointer (some ⟨W.heap.size, 0, none⟩)] 54))) := fun W hB hT => by
    have := dnew_fin (D := dfresh n g) (dfresh_ok h1 h2 h3 h4) hB (Nat.le_refl _) hT
    rw [← hzs]; exact this
  clear hzs
  go_enter Try.func11, Try.ntmps11
  go_wp2_with (go_at_call 36; refine NW.out.mono ?_; rintro e w1 ⟨rfl, hT, hB⟩; have HF := Lib.hid (FIN.out w1 hB hT); clear hT hB)
  go_ret2
  exact ⟨_, rfl, HF.out⟩
/-- New where the arguments are not possible. -/
def DBad (n g : Int) : Prop := n < 1 ∨ 64 < n ∨ g = 0
theorem dnew_bad (n g : Int) (w : World) (hn : I64 n) (hg : 0 ≤ g ∧ g ≤ 4294967295) (h : DBad n g) :
    Calls Try.prog 11 #[.int .i64 n, .int .u32 g] w fun e w' => e = .returned (.tuple #[.pointer none, .int .i64 2]) ∧ w = w' := by
  obtain ⟨n0, n1⟩ := hn
  obtain ⟨g0, g1⟩ := hg
  by_cases c : 64 < n
  · go_enter Try.func11, Try.ntmps11
    go_wp2
    go_ret2
    exact ⟨rfl, rfl⟩
  · have NW : Hid (Calls Try.prog 36 #[.int .i64 n, .int .u32 g] w fun e w' => e = .returned (.tuple #[.pointer none, .int .i64 2]) ∧ w = w') := by
      by_cases c1 : n < 1
      · exact new_arg1 n g w (.inl c1)
      · obtain rfl : g = 0 := by unfold DBad at h; omega
        exact new_arg2 n w (by omega) (by omega)
    go_enter Try.func11, Try.ntmps11
    go_wp2_with (go_at_call 36; refine NW.out.mono ?_; rintro e w1 ⟨rfl, rfl⟩)
    go_ret2
    exact ⟨rfl, rfl⟩

/-! ### Len -/
theorem dlen_no (p : Option Addr) (w : World) (h : DInv w p) : Calls Try.prog 25 #[.pointer p] w fun e w' => e = .returned (.int .i64 0) ∧ w = w' := by
  have H := Lib.hid h
  clear h
  go_enter Try.func25, Try.ntmps25
  go_wp2_with (go_at_call 38; refine (dvalid_no _ _ H.out).mono ?_; rintro e w' ⟨rfl, rfl⟩)
  go_ret
  exact ⟨rfl, rfl⟩
theorem dlen_ok (b k a : Nat) (D : Dk) (w : World) (h : DkW w b k a D) : Calls Try.prog 25 #[.pointer (some ⟨b, 0, none⟩)] w fun e w' => e = .returned (.int .i64 D.t.held.length) ∧ Below w.heap.size w w' := by
  have hc := h.c0
  have LN := Lib.hid (len_ok k D.t w h.tab)
  clear h
  go_enter Try.func25, Try.ntmps25
  go_wp2_with (first
    | (go_at_call 38; refine (dvalid_yes _ _ _ hc).mono ?_; rintro e w' ⟨rfl, rfl⟩)
    | (go_at_call 58; refine LN.out.mono ?_; rintro e w1 ⟨rfl, hb⟩; have HB := Lib.hid hb; clear hb))
  go_ret
  exact ⟨rfl, HB.out⟩

/-! ### Copy -/
theorem dcopy_no (p : Option Addr) (w : World) (h : DInv w p) : Calls Try.prog 23 #[.pointer p] w fun e w' => e = .returned (.pointer none) ∧ w = w' := by
  have H := Lib.hid h
  clear h
  go_enter Try.func23, Try.ntmps23
  go_wp2_with (go_at_call 38; refine (dvalid_no _ _ H.out).mono ?_; rintro e w' ⟨rfl, rfl⟩)
  go_ret
  exact ⟨rfl, rfl⟩
theorem box_of {w w2 : World} {t : TypeId} {cs : Array Value} (hb : Below (w.alloc (.cells cs t)).heap.size (w.alloc (.cells cs t)) w2) : Bk w2 w.heap.size t cs := (Bk.new w t cs).below hb
theorem dcopy_fin {w w2 : World} {D : Dk} {k' : Nat} (hD : D.Ok) (hB : Below (w.alloc (.cells (ucells D.u) 78)).heap.size (w.alloc (.cells (ucells D.u) 78)) w2)
    (hk : w.heap.size < k') (hT : TabW w2 k' D.t) : DNew D w w2.heap.size (w2.alloc (.cells #[.pointer (some ⟨k', 0, none⟩), .pointer (some ⟨w.heap.size, 0, none⟩)] 54)) := by
  have b1 := box_of hB
  have hs := hB.size
  rw [World.size_alloc] at hs
  have B0 : Below w.heap.size w w2 := bel2 ((Below.refl _ w).alloc (Nat.le_refl _) _) hB
  refine ⟨k', w.heap.size, ⟨hD, Bk.new w2 _ _, b1.up _, hT.same (Below.heap_alloc _ _ _ hT.bt)⟩, ?_, bel_alloc B0 _⟩
  rintro g (rfl | rfl | rfl)
  · omega
  · omega
  · omega
set_option maxRecDepth 100000 in
set_option maxHeartbeats 1000000 in
theorem dcopy_ok (b k a : Nat) (D : Dk) (w : World) (h : DkW w b k a D) : Calls Try.prog 23 #[.pointer (some ⟨b, 0, none⟩)] w fun e w' => ∃ b', e = .returned (.pointer (some ⟨b', 0, none⟩)) ∧ DNew D w b' w' := by
  have hz := zero_times
  obtain ⟨zs, hzs⟩ : ∃ zs, ucells (fun _ => 0) = zs := ⟨_, rfl⟩
  have hsz : zs.size = 64 := by rw [← hzs]; exact ucells_size _
  have hne : ¬ zs = #[] := by rw [← hzs]; exact ucells_ne _
  simp only [hzs] at hz
  obtain ⟨cs, hcs⟩ : ∃ cs, ucells D.u = cs := ⟨_, rfl⟩
  have hcz : cs.size = 64 := by rw [← hcs]; exact ucells_size _
  have hst := run_storeCells_new (P := Try.prog) w 78 zs cs (by rw [hcz]; kernel_rfl) (by rw [hcz, hsz]) (by rw [← hcs]; exact ucells_one _)
  have HB : Hid (Bk w a 78 cs) := by rw [← hcs]; exact h.ha
  have hb := h.c0
  have hb1 := h.c1
  have KB : Hid (∀ w2, Below w.heap.size w w2 → w2.cell? ⟨b, 0, none⟩ = some (.pointer (some ⟨k, 0, none⟩))) := fun w2 h2 => (h.below h2).c0
  have hc3 := KB.out _ ((Below.refl _ w).alloc (Nat.le_refl _) (.cells cs 78))
  have CP : Hid (∀ W n, Below w.heap.size w W → W.heap.size = n → Calls Try.prog 56 #[.pointer (some ⟨k, 0, none⟩)] W fun e w' => e = .returned (.pointer (some ⟨n, 0, none⟩)) ∧ TabW w' n D.t ∧ Below W.heap.size W w') := fun W n hW hn => by rw [← hn]; exact copy_ok k D.t W (h.below hW).tab
  have FIN : Hid (∀ w2, Below (w.alloc (.cells cs 78)).heap.size (w.alloc (.cells cs 78)) w2 → TabW w2 (w.heap.size + 1) D.t → DNew D w w2.heap.size (w2.alloc (.cells #[.pointer (some ⟨w.heap.size + 1, 0, none⟩), .pointer (some ⟨w.heap.size, 0, none⟩)] 54))) := fun w2 h1 h2 => by
    rw [← hcs] at h1
    exact dcopy_fin h.ok h1 (Nat.lt_succ_self _) h2
  clear hzs h hcs
  go_enter Try.func23, Try.ntmps23
  go_wp2_with (first
    | (go_at_call 38; refine (dvalid_yes _ k _ hb).mono ?_; rintro e w' ⟨rfl, rfl⟩)
    | (refine wpList_load_row rfl 78 _ rfl a rfl _ cs _ _ HB.out Try.underlying78 rfl (by rw [hcz]; kernel_rfl) ?_)
    | (go_at_call 56; refine (CP.out _ (w.heap.size + 1) ((Below.refl _ w).alloc (Nat.le_refl _) _) (by rw [World.size_alloc])).mono ?_; rintro e w2 ⟨rfl, hT, hB⟩; have HF := Lib.hid (FIN.out w2 hB hT); clear hT hB))
  go_ret
  exact ⟨_, rfl, HF.out⟩
end Go.Proofs.Ytfemfgpciogbeaa
