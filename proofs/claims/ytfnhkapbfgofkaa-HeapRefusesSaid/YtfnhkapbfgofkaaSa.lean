/- The contracts of slots' small functions: valid, at, held, release, Give, Check, Gen. -/
import Derived.Test.YtfnhkapbfgofkaaSk
import Derived.Test.YtfnhkapbfgofkaaSg
import Derived.IntWalk
namespace Go.Proofs.Ytfnhkapbfgofkaa
open Go.RowKit

theorem bel2 {w a b : World} (h : Below w.heap.size w a) (k : Below a.heap.size a b) : Below w.heap.size w b := h.trans (k.mono h.size)
theorem bel_drewN {B : Nat} {a w : World} (h : Below B a w) (n : Nat) : Below B a (w.drewN n) := ⟨h.os, h.tape, h.output, h.size, h.block⟩

theorem valid_nil (w : World) : Calls Try.prog 65 #[.pointer none] w fun e w' => e = .returned (.bool false) ∧ w = w' := by
  go_enter Try.func65, Try.ntmps65
  go_wp2
  go_ret
  exact ⟨rfl, rfl⟩
theorem valid_zero (b : Nat) (w : World) (h : Bk w b 112 (tcells zeroT)) : Calls Try.prog 65 #[.pointer (some ⟨b, 0, none⟩)] w fun e w' => e = .returned (.bool false) ∧ w = w' := by
  have hc : w.cell? ⟨b, 0, none⟩ = some (.int .i64 0) := by rw [h.cell, tcells_at _ (by omega)]; rfl
  clear h
  go_enter Try.func65, Try.ntmps65
  go_wp2
  go_ret
  exact ⟨rfl, rfl⟩
theorem valid_yes (b : Nat) (T : Tb) (w : World) (h : TabW w b T) : Calls Try.prog 65 #[.pointer (some ⟨b, 0, none⟩)] w fun e w' => e = .returned (.bool true) ∧ w = w' := by
  have hc := h.c0
  have hn : 0 < T.n := h.ok.lo
  clear h
  go_enter Try.func65, Try.ntmps65
  go_wp2
  go_ret
  exact ⟨rfl, rfl⟩
theorem valid_no (v : Option Addr) (w : World) (h : Inv w v) : Calls Try.prog 65 #[.pointer v] w fun e w' => e = .returned (.bool false) ∧ w = w' := by
  rcases h with rfl | ⟨b, rfl, h⟩
  · exact valid_nil w
  · exact valid_zero b w h

/-! ### at -/
theorem at_inv (v : Option Addr) (i : Int) (w : World) (h : Inv w v) : Calls Try.prog 76 #[.pointer v, .int .i64 i] w fun e w' => e = .returned (.tuple #[.pointer none, .int .i64 1]) ∧ w = w' := by
  have H := Lib.hid h
  clear h
  go_enter Try.func76, Try.ntmps76
  go_wp2_with (go_at_call 65; refine (valid_no _ _ H.out).mono ?_; rintro e w' ⟨rfl, rfl⟩)
  go_ret2
  exact ⟨rfl, rfl⟩
theorem at_out (b : Nat) (T : Tb) (i : Int) (w : World) (h : TabW w b T) (hi : i < 0 ∨ (T.n : Int) ≤ i) : Calls Try.prog 76 #[.pointer (some ⟨b, 0, none⟩), .int .i64 i] w fun e w' => e = .returned (.tuple #[.pointer none, .int .i64 3]) ∧ w = w' := by
  have H := Lib.hid h
  have hc := h.c0
  clear h
  by_cases h0 : i < 0
  all_goals
    first | have h1 : (T.n : Int) ≤ i := by omega | skip
    clear hi
    go_enter Try.func76, Try.ntmps76
    go_wp2_with (go_at_call 65; refine (valid_yes _ _ _ H.out).mono ?_; rintro e w' ⟨rfl, rfl⟩)
    go_ret2
    exact ⟨rfl, rfl⟩
theorem at_in (b : Nat) (T : Tb) (k : Nat) (w : World) (h : TabW w b T) (hk : k < T.n) : Calls Try.prog 76 #[.pointer (some ⟨b, 0, none⟩), .int .i64 k] w fun e w' => e = .returned (.tuple #[.pointer (some ⟨b, 1 + k * 2, none⟩), .int .i64 0]) ∧ w = w' := by
  have H := Lib.hid h
  have hc := h.c0
  have hn := h.ok.hi
  clear h
  go_enter Try.func76, Try.ntmps76
  go_wp2_with (go_at_call 65; refine (valid_yes _ _ _ H.out).mono ?_; rintro e w' ⟨rfl, rfl⟩)
  go_ret2
  exact ⟨rfl, rfl⟩

/-! ### held -/
theorem held_inv (v : Option Addr) (i g : Int) (w : World) (h : Inv w v) : Calls Try.prog 69 #[.pointer v, .agg #[.int .i64 i, .int .u32 g]] w fun e w' => e = .returned (.tuple #[.pointer none, .int .i64 1]) ∧ Below w.heap.size w w' := by
  have H := Lib.hid h
  clear h
  go_enter Try.func69, Try.ntmps69
  go_wp2_with fail
  refine (at_inv v i _ (H.out.below ((Below.refl _ w).alloc (Nat.le_refl _) _))).mono ?_
  rintro e w' ⟨rfl, rfl⟩
  go_wp2
  go_ret2
  exact ⟨rfl, (Below.refl _ w).alloc (Nat.le_refl _) _⟩
theorem held_out (b : Nat) (T : Tb) (i g : Int) (w : World) (h : TabW w b T) (hi : i < 0 ∨ (T.n : Int) ≤ i) : Calls Try.prog 69 #[.pointer (some ⟨b, 0, none⟩), .agg #[.int .i64 i, .int .u32 g]] w fun e w' => e = .returned (.tuple #[.pointer none, .int .i64 3]) ∧ Below w.heap.size w w' := by
  have H := Lib.hid h
  have HI := Lib.hid hi
  clear h hi
  go_enter Try.func69, Try.ntmps69
  go_wp2_with fail
  refine (at_out b T i _ (H.out.below ((Below.refl _ w).alloc (Nat.le_refl _) _)) HI.out).mono ?_
  rintro e w' ⟨rfl, rfl⟩
  go_wp2
  go_ret2
  exact ⟨rfl, (Below.refl _ w).alloc (Nat.le_refl _) _⟩
set_option maxHeartbeats 1000000 in
theorem held_stale (b : Nat) (T : Tb) (k : Nat) (g : Int) (w : World) (h : TabW w b T) (hk : k < T.n) (hs : T.s k = 1 → (T.g k : Int) ≠ g) : Calls Try.prog 69 #[.pointer (some ⟨b, 0, none⟩), .agg #[.int .i64 k, .int .u32 g]] w fun e w' => e = .returned (.tuple #[.pointer none, .int .i64 7]) ∧ Below w.heap.size w w' := by
  have HW := Lib.hid (h.below ((Below.refl _ w).alloc (Nat.le_refl _) (.cells #[.int .i64 k, .int .u32 g] 34)))
  have hn := h.ok.hi
  have hb := h.bt
  have hcs := h.cs (i := k) (by omega)
  have hcg := h.cg (i := k) (by omega)
  clear h
  generalize T.s k = x at *
  generalize T.g k = y at *
  by_cases hx : x = 1
  · have hy := hs hx
    subst hx
    have hy2 : ((y : Int) != g) = true := by simpa using hy
    clear hs hy
    go_enter Try.func69, Try.ntmps69
    go_wp2_with fail
    refine (at_in b T k _ HW.out hk).mono ?_
    rintro e w' ⟨rfl, rfl⟩
    go_wp2
    go_quiet (fail)
    go_wp2
    go_ret2
    exact ⟨rfl, bel_drewN ((Below.refl _ w).alloc (Nat.le_refl _) _) _⟩
  · have hx2 : ((x : Int) != 1) = true := by simp; omega
    clear hs hx
    go_enter Try.func69, Try.ntmps69
    go_wp2_with fail
    refine (at_in b T k _ HW.out hk).mono ?_
    rintro e w' ⟨rfl, rfl⟩
    go_wp2
    go_quiet (fail)
    go_wp2
    go_ret2
    exact ⟨rfl, bel_drewN ((Below.refl _ w).alloc (Nat.le_refl _) _) _⟩
set_option maxHeartbeats 1000000 in
theorem held_ok (b : Nat) (T : Tb) (k : Nat) (g : Int) (w : World) (h : TabW w b T) (hk : k < T.n) (hs : T.s k = 1) (hg : (T.g k : Int) = g) : Calls Try.prog 69 #[.pointer (some ⟨b, 0, none⟩), .agg #[.int .i64 k, .int .u32 g]] w fun e w' => e = .returned (.tuple #[.pointer (some ⟨b, 1 + k * 2, none⟩), .int .i64 0]) ∧ Below w.heap.size w w' := by
  have HW := Lib.hid (h.below ((Below.refl _ w).alloc (Nat.le_refl _) (.cells #[.int .i64 k, .int .u32 g] 34)))
  have hn := h.ok.hi
  have hb := h.bt
  have hcs := h.cs (i := k) (by omega)
  have hcg := h.cg (i := k) (by omega)
  clear h
  rw [hs] at hcs
  rw [hg] at hcg
  have hy2 : (g != g) = false := by simp
  clear hs hg
  go_enter Try.func69, Try.ntmps69
  go_wp2_with fail
  refine (at_in b T k _ HW.out hk).mono ?_
  rintro e w' ⟨rfl, rfl⟩
  go_wp2
  go_quiet (fail)
  go_wp2
  go_ret2
  exact ⟨rfl, bel_drewN ((Below.refl _ w).alloc (Nat.le_refl _) _) _⟩

/-! ### release -/
theorem TabW.put_s {w : World} {b : Nat} {T : Tb} (h : TabW w b T) (i v : Nat) (ho : Tb.Ok ⟨T.n, put T.s i v, T.g⟩) : TabW (w.setCell ⟨b, 1 + i * 2, none⟩ (.int .i64 v)) b ⟨T.n, put T.s i v, T.g⟩ :=
  ⟨ho, by rw [← tcells_put_s]; exact h.bk.put _ _⟩
theorem TabW.put_sg {w : World} {b : Nat} {T : Tb} (h : TabW w b T) (i v u : Nat) (ho : Tb.Ok ⟨T.n, put T.s i v, put T.g i u⟩) : TabW ((w.setCell ⟨b, 1 + i * 2, none⟩ (.int .i64 v)).setCell ⟨b, 1 + i * 2 + 1, none⟩ (.int .u32 u)) b ⟨T.n, put T.s i v, put T.g i u⟩ := by
  refine ⟨ho, ?_⟩
  have h1 : Bk (w.setCell ⟨b, 1 + i * 2, none⟩ (.int .i64 v)) b 112 (tcells ⟨T.n, put T.s i v, T.g⟩) := by rw [← tcells_put_s]; exact h.bk.put _ _
  have h2 := h1.put (1 + i * 2 + 1) (.int .u32 u)
  rwa [tcells_put_g] at h2
def RelV (b : Nat) (T : Tb) (w : World) (e : Ending) (w' : World) : Prop := e = .returned (.tuple #[]) ∧ TabW w' b T ∧ Kept (· = b) w w'
set_option maxHeartbeats 1000000 in
theorem release_ok (b : Nat) (T : Tb) (k : Nat) (w : World) (h : TabW w b T) (hk : k < T.n) : Calls Try.prog 70 #[.pointer (some ⟨b, 1 + k * 2, none⟩)] w (RelV b (T.gave k) w) := by
  have hn := h.ok.hi
  have hg1 := h.ok.g1 k hk
  have hgm := h.ok.gm k
  have hb := h.bt
  have hok := h.ok.gave k
  have hcg := h.cg (i := k) (by omega)
  have H := Lib.hid h
  unfold Tb.gave at hok ⊢
  clear h
  by_cases hl : T.g k = 4294967295
  · rw [if_pos hl] at hok ⊢
    have HOK := Lib.hid hok
    clear hok
    rw [hl] at hcg
    clear hl hg1 hgm
    go_enter Try.func70, Try.ntmps70
    go_wp2_with fail
    refine (next_last _).mono ?_
    rintro e w1 ⟨rfl, hb1⟩
    have H1 := Lib.hid (H.out.below hb1)
    have hcs := H1.out.cs (i := k) (by omega)
    have hfs := H1.out.fz (1 + k * 2)
    have HB := Lib.hid hb1
    clear hb1 hcg
    go_wp2
    go_end0
    exact ⟨rfl, H1.out.put_s k 2 HOK.out, (Kept.of_below HB.out).put1 _ _⟩
  · rw [if_neg hl] at hok ⊢
    have HOK := Lib.hid hok
    obtain ⟨y, hy⟩ : ∃ y, T.g k = y := ⟨_, rfl⟩
    rw [hy] at hcg hl hg1 hgm HOK
    rw [hy]
    have h1 : (1 : Int) ≤ y := by omega
    have h2 : (y : Int) < 4294967295 := by omega
    clear hok hy hl hg1 hgm
    go_enter Try.func70, Try.ntmps70
    go_wp2_with fail
    refine (next_yes y _ h1 h2).mono ?_
    rintro e w1 ⟨rfl, hb1⟩
    have H1 := Lib.hid (H.out.below hb1)
    have hcs := H1.out.cs (i := k) (by omega)
    have hcg2 := H1.out.cg (i := k) (by omega)
    have hfs := H1.out.fz (1 + k * 2)
    have hfg := H1.out.fz (1 + k * 2 + 1)
    have HB := Lib.hid hb1
    clear hb1 hcg
    go_wp2
    go_end0
    exact ⟨rfl, H1.out.put_sg k 0 (y + 1) HOK.out, ((Kept.of_below HB.out).put1 _ _).put1 _ _⟩
end Go.Proofs.Ytfnhkapbfgofkaa
