/- The contracts of colour's New, Copy, Clear and Counts. -/
import Derived.Test.YthcpmcdgojgdlaaCh
import Derived.Deep.WholeRow
namespace Go.Proofs.Ythcpmcdgojgdlaa
open Go.RowKit

theorem new_bad (size : Int) (w : World) (h : size < 1 ∨ 256 < size) : Calls Try.prog 10 #[.int .i64 size] w fun e w' => e = .returned (.tuple #[.pointer none, .int .i64 2]) ∧ w = w' := by
  by_cases h0 : size < 1
  all_goals
    first | have h1 : 256 < size := by omega | skip
    clear h
    go_enter Try.func10, Try.ntmps10
    go_wp2
    go_ret2
    exact ⟨rfl, rfl⟩
theorem zero_paint (w : World) : (zeroValue 42).run Try.prog w = .ok (.agg (pcells zeroP)) w := by kernel_rfl
set_option maxRecDepth 100000 in
set_option maxHeartbeats 1000000 in
theorem new_ok (n : Nat) (w : World) (h1 : 1 ≤ n) (h2 : n ≤ 256) : Calls Try.prog 10 #[.int .i64 n] w fun e w' => e = .returned (.tuple #[.pointer (some ⟨w.heap.size, 0, none⟩), .int .i64 0]) ∧ PaW w' w.heap.size (white n) ∧ Below w.heap.size w w' := by
  have hz := zero_paint
  obtain ⟨zs, hzs⟩ : ∃ zs, pcells zeroP = zs := ⟨_, rfl⟩
  have hsz : zs.size = 257 := by rw [← hzs]; exact pcells_size _
  have hne : ¬ zs = #[] := by rw [← hzs]; exact pcells_ne _
  simp only [hzs] at hz
  have HZ := Lib.hid hzs
  clear hzs
  go_enter Try.func10, Try.ntmps10
  go_wp2
  go_ret2
  refine ⟨rfl, ⟨white_ok h1 h2, ?_⟩, bel_new _ _⟩
  rw [← pcells_n0, HZ.out]
  exact Bk.new w _ _
set_option maxRecDepth 100000 in
set_option maxHeartbeats 1000000 in
theorem copy_ok (b : Nat) (P : Pt) (w : World) (h : PaW w b P) : Calls Try.prog 22 #[.pointer (some ⟨b, 0, none⟩)] w fun e w' => e = .returned (.pointer (some ⟨w.heap.size, 0, none⟩)) ∧ PaW w' w.heap.size P ∧ Below w.heap.size w w' := by
  have hz := zero_paint
  obtain ⟨zs, hzs⟩ : ∃ zs, pcells zeroP = zs := ⟨_, rfl⟩
  have hsz : zs.size = 257 := by rw [← hzs]; exact pcells_size _
  have hne : ¬ zs = #[] := by rw [← hzs]; exact pcells_ne _
  simp only [hzs] at hz
  have H := Lib.hid h
  have HB := Lib.hid h.bk
  have hst := run_storeCells_new (P := Try.prog) w 42 zs (pcells P) (by rw [pcells_size]; kernel_rfl) (by rw [pcells_size, hsz]) (pcells_one P)
  clear hzs h
  go_enter Try.func22, Try.ntmps22
  go_wp2_with (first
    | (go_at_call 35; refine (valid_yes _ _ _ H.out).mono ?_; rintro e w' ⟨rfl, rfl⟩)
    | (refine wpList_load_row rfl 42 _ rfl b rfl _ (pcells P) _ _ HB.out Try.underlying42 rfl (by rw [pcells_size]; kernel_rfl) ?_))
  go_ret
  exact ⟨rfl, ⟨H.out.ok, Bk.new w _ _⟩, bel_new _ _⟩
theorem copy_inv (v : Option Addr) (w : World) (h : Inv w v) : Calls Try.prog 22 #[.pointer v] w fun e w' => e = .returned (.pointer none) ∧ w = w' := by
  have H := Lib.hid h
  clear h
  go_enter Try.func22, Try.ntmps22
  go_wp2_with (go_at_call 35; refine (valid_no _ _ H.out).mono ?_; rintro e w' ⟨rfl, rfl⟩)
  go_ret
  exact ⟨rfl, rfl⟩

/-! ### Counts -/
theorem counts_inv (v : Option Addr) (w : World) (h : Inv w v) : Calls Try.prog 27 #[.pointer v] w fun e w' => e = .returned (.tuple #[.int .i64 0, .int .i64 0, .int .i64 0]) ∧ w = w' := by
  have H := Lib.hid h
  clear h
  go_enter Try.func27, Try.ntmps27
  go_wp2_with (go_at_call 35; refine (valid_no _ _ H.out).mono ?_; rintro e w' ⟨rfl, rfl⟩)
  go_ret3
  exact ⟨rfl, rfl⟩
/-- The paint's array up to its size. -/
theorem slice_run (b n : Nat) (h : n ≤ 256) (W : World) : (Instr.sliceAt 40 (.pointer (some ⟨b, 1, none⟩)) none (some (.int .i64 (n : Int))) none).run Try.prog W = .ok (.slice (some ⟨b, 1, none⟩) n 256) W := by
  have hl : Try.prog.arrayLen 40 = 256 := by kernel_rfl
  have hs : (sizeOf (Try.prog.elem 40)).run Try.prog W = .ok 1 W := by kernel_rfl
  rw [run_sliceAt_array_h W 40 ⟨b, 1, none⟩ (by kernel_rfl) .i64 n (by omega) (by rw [hl]; omega), hs, hl]
  simp [slicedAt, go_sem, Addr.add]
/-- How many of the first k slots have a colour. -/
def Pt.cntTo (P : Pt) (v k : Nat) : Nat := (sel P.c v k).length
theorem Pt.cntTo_zero (P : Pt) (v : Nat) : P.cntTo v 0 = 0 := rfl
theorem Pt.cntTo_succ (P : Pt) (v k : Nat) : P.cntTo v (k + 1) = P.cntTo v k + if P.c k = v then 1 else 0 := by
  unfold Pt.cntTo
  rw [sel_snoc, List.length_append]
  split <;> rfl
theorem Pt.cntTo_le (P : Pt) (v k : Nat) : P.cntTo v k ≤ k := sel_len _ _ _
/-- The block of the three numbers. -/
def three (x y z : Nat) : Array Value := #[.int .i64 x, .int .i64 y, .int .i64 z]
structure CtSt (w0 w : World) (A b : Nat) (P : Pt) (k : Nat) : Prop where
  p : PaW w b P
  a : Bk w A 59 (three (P.cntTo 0 k) (P.cntTo 1 k) (P.cntTo 2 k))
  bel : Below w0.heap.size w0 w
set_option maxRecDepth 100000 in
set_option maxHeartbeats 4000000 in
theorem counts_ok (b : Nat) (P : Pt) (w : World) (h : PaW w b P) : Calls Try.prog 27 #[.pointer (some ⟨b, 0, none⟩)] w fun e w' => e = .returned (.tuple #[.int .i64 (P.cnt 0), .int .i64 (P.cnt 1), .int .i64 (P.cnt 2)]) ∧ Below w.heap.size w w' := by
  have H := Lib.hid h
  have hn := h.ok.hi
  have hbt := h.bt
  have hsl := slice_run b P.n hn
  have hc0 : (w.alloc (.cells #[.int .i64 0, .int .i64 0, .int .i64 0] 59)).cell? ⟨b, 0, none⟩ = some (.int .i64 P.n) := (h.below (bel_new w _)).c0
  have ST : Hid (∀ q, CtSt w ((w.alloc (.cells #[.int .i64 0, .int .i64 0, .int .i64 0] 59)).drewN q) w.heap.size b P 0) := fun q => ⟨(h.below (bel_new w _)).drewN q, Bk.new w _ _, bel_drewN (bel_new w _) q⟩
  clear h
  go_enter Try.func27, Try.ntmps27
  go_wp2_with (go_at_call 35; refine (valid_yes _ _ _ H.out).mono ?_; rintro e w' ⟨rfl, rfl⟩)
  go_quiet (fail)
  obtain ⟨A, hA⟩ : ∃ A, w.heap.size = A := ⟨_, rfl⟩
  have HA := Lib.hid hA
  rw [hA] at ST
  rw [hA]
  clear hA hc0 hsl
  go_wp2
  go_loopw [20] (fun i wr => ∃ k : Nat, k ≤ P.n ∧ i = .int .i64 k ∧ Hid (CtSt w wr A b P k)) (fun i _ => P.n - (intOf i).toNat)
  case atStart => exact ⟨0, Nat.zero_le _, rfl, ST.out _⟩
  case round =>
    obtain ⟨k, hk, rfl, HS⟩ := hrel
    have hlA := HS.out.a.lt
    have hl0 := P.cntTo_le 0 k
    have hl1 := P.cntTo_le 1 k
    have hl2 := P.cntTo_le 2 k
    by_cases hlt : k < P.n
    · have hcs := HS.out.p.cs (i := k) (by omega)
      have hx := HS.out.p.ok.le k
      have s0 := P.cntTo_succ 0 k
      have s1 := P.cntTo_succ 1 k
      have s2 := P.cntTo_succ 2 k
      have hAb : A ≠ b := by have := H.out.bt; have := HA.out; omega
      have hlb := HS.out.p.bt
      generalize P.c k = x at *
      obtain ⟨c0, e0⟩ : ∃ c, P.cntTo 0 k = c := ⟨_, rfl⟩
      obtain ⟨c1, e1⟩ : ∃ c, P.cntTo 1 k = c := ⟨_, rfl⟩
      obtain ⟨c2, e2⟩ : ∃ c, P.cntTo 2 k = c := ⟨_, rfl⟩
      have HB : Hid (Bk wr A 59 (three c0 c1 c2)) := by rw [← e0, ← e1, ← e2]; exact HS.out.a
      rw [e0] at hl0 s0
      rw [e1] at hl1 s1
      rw [e2] at hl2 s2
      clear e0 e1 e2
      have a0 : wr.cell? ⟨A, 0, none⟩ = some (.int .i64 c0) := HB.out.cell 0
      have a1 : wr.cell? ⟨A, 1, none⟩ = some (.int .i64 c1) := HB.out.cell 1
      have a2 : wr.cell? ⟨A, 2, none⟩ = some (.int .i64 c2) := HB.out.cell 2
      have f0 := HB.out.frozen 0
      have f1 := HB.out.frozen 1
      have f2 := HB.out.frozen 2
      have HN := Lib.hid (And.intro s0 (And.intro s1 s2))
      clear s0 s1 s2
      have hlo : w.heap.size ≤ A := by have := HA.out; omega
      have HLO := Lib.hid hlo
      clear hlo
      have hx3 : x = 0 ∨ x = 1 ∨ x = 2 := by omega
      rcases hx3 with rfl | rfl | rfl
      · go_wp2
        go_roundw
        case rel =>
          refine ⟨k + 1, by omega, by go_num, ?_, ?_, HS.out.bel.setCell (p := ⟨A, 0, none⟩) HLO.out _⟩
          · exact HS.out.p.same (Below.heap_setCell _ _ _ _ (by show b ≠ A; omega))
          · have := HB.out.put 0 (.int .i64 ((c0 + 1 : Nat) : Int))
            rw [HN.out.1, HN.out.2.1, HN.out.2.2]
            exact this
        case measure => simp [intOf]; omega
      · go_wp2
        go_roundw
        case rel =>
          refine ⟨k + 1, by omega, by go_num, ?_, ?_, HS.out.bel.setCell (p := ⟨A, 1, none⟩) HLO.out _⟩
          · exact HS.out.p.same (Below.heap_setCell _ _ _ _ (by show b ≠ A; omega))
          · have := HB.out.put 1 (.int .i64 ((c1 + 1 : Nat) : Int))
            rw [HN.out.1, HN.out.2.1, HN.out.2.2]
            exact this
        case measure => simp [intOf]; omega
      · go_wp2
        go_roundw
        case rel =>
          refine ⟨k + 1, by omega, by go_num, ?_, ?_, HS.out.bel.setCell (p := ⟨A, 2, none⟩) HLO.out _⟩
          · exact HS.out.p.same (Below.heap_setCell _ _ _ _ (by show b ≠ A; omega))
          · have := HB.out.put 2 (.int .i64 ((c2 + 1 : Nat) : Int))
            rw [HN.out.1, HN.out.2.1, HN.out.2.2]
            exact this
        case measure => simp [intOf]; omega
    · obtain rfl : k = P.n := by omega
      have a0 : wr.cell? ⟨A, 0, none⟩ = some (.int .i64 (P.cntTo 0 P.n)) := HS.out.a.cell 0
      have a1 : wr.cell? ⟨A, 1, none⟩ = some (.int .i64 (P.cntTo 1 P.n)) := HS.out.a.cell 1
      have a2 : wr.cell? ⟨A, 2, none⟩ = some (.int .i64 (P.cntTo 2 P.n)) := HS.out.a.cell 2
      go_wp2
      go_quiet (fail)
      go_wp2
      go_ret3
      exact ⟨rfl, bel_drewN HS.out.bel _⟩

/-! ### Clear -/
theorem clear_inv (v : Option Addr) (w : World) (h : Inv w v) : Calls Try.prog 20 #[.pointer v] w fun e w' => e = .returned (.tuple #[]) ∧ w = w' := by
  have H := Lib.hid h
  clear h
  go_enter Try.func20, Try.ntmps20
  go_wp2_with (go_at_call 35; refine (valid_no _ _ H.out).mono ?_; rintro e w' ⟨rfl, rfl⟩)
  go_end0
  exact ⟨rfl, rfl⟩
end Go.Proofs.Ythcpmcdgojgdlaa
