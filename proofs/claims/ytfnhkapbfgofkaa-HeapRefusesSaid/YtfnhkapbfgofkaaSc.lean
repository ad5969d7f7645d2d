/- The contracts of slots' New and Copy. -/
import Derived.Test.YtfnhkapbfgofkaaSb
import Derived.Deep.WholeRow
namespace Go.Proofs.Ytfnhkapbfgofkaa
open Go.RowKit

theorem new_arg1 (size first : Int) (w : World) (h : size < 1 ∨ 256 < size) : Calls Try.prog 34 #[.int .i64 size, .int .u32 first] w fun e w' => e = .returned (.tuple #[.pointer none, .int .i64 2]) ∧ w = w' := by
  by_cases h0 : size < 1
  all_goals
    first | have h1 : 256 < size := by omega | skip
    clear h
    go_enter Try.func34, Try.ntmps34
    go_wp2
    go_ret2
    exact ⟨rfl, rfl⟩
theorem new_arg2 (size : Int) (w : World) (h1 : 1 ≤ size) (h2 : size ≤ 256) : Calls Try.prog 34 #[.int .i64 size, .int .u32 0] w fun e w' => e = .returned (.tuple #[.pointer none, .int .i64 2]) ∧ w = w' := by
  go_enter Try.func34, Try.ntmps34
  go_wp2_with (go_at_call 63; refine (check_zero _).mono ?_; rintro e w' ⟨rfl, rfl⟩)
  go_ret2
  exact ⟨rfl, rfl⟩
theorem zero_table (w : World) : (zeroValue 112).run Try.prog w = .ok (.agg (tcells zeroT)) w := by kernel_rfl
theorem tcells_ne (T : Tb) : ¬ tcells T = #[] := fun h => by have := congrArg Array.size h; rw [tcells_size] at this; simp at this
theorem tcells_one (T : Tb) : (tcells T).all (·.oneCell') = true := by
  rw [Array.all_eq_true_iff_forall_mem]
  intro v hv
  obtain ⟨j, _, rfl⟩ := List.mem_map.1 (show v ∈ (List.range 513).map (tcell T) by simpa [tcells] using hv)
  unfold tcell
  split
  · rfl
  · split <;> rfl
theorem tcells_n0 (n : Nat) : (tcells zeroT).setIfInBounds 0 (.int .i64 n) = tcells ⟨n, fun _ => 0, fun _ => 0⟩ := by
  refine tcells_ext fun j hj => ?_
  by_cases e : 0 = j
  · subst e; rw [if_pos rfl, tcell_n]
  · rw [if_neg e]
    unfold tcell
    have h0 : ¬ j = 0 := fun h => e h.symm
    rw [if_neg h0, if_neg h0]; rfl
def NewV (T : Tb) (w : World) (e : Ending) (w' : World) : Prop := e = .returned (.tuple #[.pointer (some ⟨w.heap.size, 0, none⟩), .int .i64 0]) ∧ TabW w' w.heap.size T ∧ Below w.heap.size w w'
structure NSt (w0 w : World) (T : Tb) : Prop where
  bel : Below w0.heap.size w0 w
  bk : Bk w w0.heap.size 112 (tcells T)
theorem NSt.lay {w0 w : World} {n first : Nat} (k : Nat) (h : NSt w0 w ⟨n, fun _ => 0, fun i => if i < k then first else 0⟩) :
    NSt w0 ((w.setCell ⟨w0.heap.size, 1 + k * 2, none⟩ (.int .i64 0)).setCell ⟨w0.heap.size, 1 + k * 2 + 1, none⟩ (.int .u32 first)) ⟨n, fun _ => 0, fun i => if i < k + 1 then first else 0⟩ := by
  refine ⟨(h.bel.setCell (p := ⟨_, _, none⟩) (Nat.le_refl _) _).setCell (p := ⟨_, _, none⟩) (Nat.le_refl _) _, ?_⟩
  have h1 := h.bk.put (1 + k * 2) (.int .i64 (0 : Nat))
  rw [tcells_put_s] at h1
  have h2 := h1.put (1 + k * 2 + 1) (.int .u32 first)
  rw [tcells_put_g] at h2
  have e : (⟨n, put (fun _ => 0) k 0, put (fun i => if i < k then first else 0) k first⟩ : Tb) = ⟨n, fun _ => 0, fun i => if i < k + 1 then first else 0⟩ := by
    congr 1
    · funext i; simp only [put]; split <;> rfl
    · funext i; simp only [put]
      by_cases e : i = k
      · rw [if_pos e, if_pos (by omega)]
      · rw [if_neg e]
        by_cases h : i < k
        · rw [if_pos h, if_pos (by omega)]
        · rw [if_neg h, if_neg (by omega)]
  rw [e] at h2
  exact h2
set_option maxRecDepth 100000 in
set_option maxHeartbeats 1000000 in
theorem new_ok (n : Nat) (first : Nat) (w : World) (h1 : 1 ≤ n) (h2 : n ≤ 256) (h3 : 1 ≤ first) (h4 : first ≤ 4294967295) : Calls Try.prog 34 #[.int .i64 n, .int .u32 first] w (NewV (fresh n first) w) := by
  have hz := zero_table
  obtain ⟨zs, hzs⟩ : ∃ zs, tcells zeroT = zs := ⟨_, rfl⟩
  have hsz : zs.size = 513 := by rw [← hzs]; exact tcells_size _
  have hne : ¬ zs = #[] := by rw [← hzs]; exact tcells_ne _
  simp only [hzs] at hz
  have HZ := Lib.hid hzs
  clear hzs
  go_enter Try.func34, Try.ntmps34
  go_wp2_with (go_at_call 63; refine (check_ok _ _ (by omega) (by omega)).mono ?_; rintro e w' ⟨rfl, rfl⟩)
  have hst : Hid (NSt w (w.alloc (.cells (zs.setIfInBounds 0 (.int .i64 n)) 112)) ⟨n, fun _ => 0, fun i => if i < 0 then first else 0⟩) := by
    refine ⟨(Below.refl _ w).alloc (Nat.le_refl _) _, ?_⟩
    rw [← HZ.out, tcells_n0]
    exact Bk.new w _ _
  clear hz hsz hne
  generalize (w.alloc (.cells (zs.setIfInBounds 0 (.int .i64 n)) 112)) = w1 at *
  clear HZ
  obtain ⟨b, hb⟩ : ∃ b, w.heap.size = b := ⟨_, rfl⟩
  have HB := Lib.hid hb
  rw [hb]
  clear hb
  go_loopw [24] (fun i wr => ∃ k : Nat, k ≤ n ∧ i = .int .i64 k ∧ Hid (NSt w wr ⟨n, fun _ => 0, fun i => if i < k then first else 0⟩)) (fun i _ => n - (intOf i).toNat)
  case atStart => exact ⟨0, Nat.zero_le _, rfl, hst.out⟩
  case round =>
    obtain ⟨k, hk, rfl, HS⟩ := hrel
    by_cases hlt : k < n
    · have hbk := HS.out.bk
      rw [HB.out] at hbk
      have hcs : wr.cell? ⟨b, 1 + k * 2, none⟩ = some (.int .i64 0) := by rw [hbk.cell, tcells_at _ (by omega), tcell_s]; rfl
      have hcg : wr.cell? ⟨b, 1 + k * 2 + 1, none⟩ = some (.int .u32 0) := by rw [hbk.cell, tcells_at _ (by omega), tcell_g]; simp
      have hfs := hbk.frozen (1 + k * 2)
      have hfg := hbk.frozen (1 + k * 2 + 1)
      clear hbk
      go_wp2
      go_roundw
      case rel => exact ⟨k + 1, by omega, by go_num, by rw [← HB.out]; exact HS.out.lay k⟩
      case measure => simp [intOf]; omega
    · obtain rfl : k = n := by omega
      go_wp2
      go_ret2
      rw [← HB.out]
      exact ⟨rfl, ⟨fresh_ok h1 h2 h3 h4, HS.out.bk⟩, HS.out.bel⟩
set_option maxRecDepth 100000 in
set_option maxHeartbeats 1000000 in
theorem copy_ok (b : Nat) (T : Tb) (w : World) (h : TabW w b T) : Calls Try.prog 52 #[.pointer (some ⟨b, 0, none⟩)] w fun e w' => e = .returned (.pointer (some ⟨w.heap.size, 0, none⟩)) ∧ TabW w' w.heap.size T ∧ Below w.heap.size w w' := by
  have hz := zero_table
  obtain ⟨zs, hzs⟩ : ∃ zs, tcells zeroT = zs := ⟨_, rfl⟩
  have hsz : zs.size = 513 := by rw [← hzs]; exact tcells_size _
  have hne : ¬ zs = #[] := by rw [← hzs]; exact tcells_ne _
  simp only [hzs] at hz
  have H := Lib.hid h
  have HB := Lib.hid h.bk
  have hst := run_storeCells_new (P := Try.prog) w 112 zs (tcells T) (by rw [tcells_size]; kernel_rfl) (by rw [tcells_size, hsz]) (tcells_one T)
  clear hzs h
  go_enter Try.func52, Try.ntmps52
  go_wp2_with (first
    | (go_at_call 65; refine (valid_yes _ _ _ H.out).mono ?_; rintro e w' ⟨rfl, rfl⟩)
    | (refine wpList_load_row rfl 112 _ rfl b rfl _ (tcells T) _ _ HB.out Try.underlying112 rfl (by rw [tcells_size]; kernel_rfl) ?_))
  go_ret
  exact ⟨rfl, ⟨H.out.ok, Bk.new w _ _⟩, (Below.refl _ w).alloc (Nat.le_refl _) _⟩
theorem copy_inv (v : Option Addr) (w : World) (h : Inv w v) : Calls Try.prog 52 #[.pointer v] w fun e w' => e = .returned (.pointer none) ∧ w = w' := by
  have H := Lib.hid h
  clear h
  go_enter Try.func52, Try.ntmps52
  go_wp2_with (go_at_call 65; refine (valid_no _ _ H.out).mono ?_; rintro e w' ⟨rfl, rfl⟩)
  go_ret
  exact ⟨rfl, rfl⟩
end Go.Proofs.Ytfnhkapbfgofkaa
