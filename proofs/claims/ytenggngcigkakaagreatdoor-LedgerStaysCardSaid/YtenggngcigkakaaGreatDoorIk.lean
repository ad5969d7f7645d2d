/- What LedgerStays wants: clear on a slice of attempts, numbers that are none, wrong attempts. -/
import Derived.Test.YtenggngcigkakaaGreatDoorIj
namespace Go.Proofs.YtenggngcigkakaaGreatDoor
open Go.RowKit Go.ChangeShapes

theorem zeroA (w : World) : (zeroValue 32).run Tryz.prog w = .ok (.agg #[.int .i64 0, .int .i64 0, .int .i64 0, .int .u32 0, .int .i64 0, .int .i64 0]) w := by kernel_rfl
def zl : Array Value := #[.int .i64 0, .int .i64 0, .int .i64 0, .int .u32 0, .int .i64 0, .int .i64 0]
theorem zl_one (i : Nat) : (zl[i % 6]!).oneCell' = true := by
  have h : i % 6 < 6 := Nat.mod_lt _ (by decide)
  generalize i % 6 = k at h
  match k, h with
  | 0, _ => rfl
  | 1, _ => rfl
  | 2, _ => rfl
  | 3, _ => rfl
  | 4, _ => rfl
  | 5, _ => rfl
theorem zero_one (n : Nat) : ∀ v ∈ (Builtin.zeroCells zl n).toList, v.oneCell' = true := by
  intro v hv
  rw [Array.mem_toList_iff] at hv
  unfold Builtin.zeroCells at hv
  obtain ⟨i, _, rfl⟩ := Array.mem_map.1 hv
  exact zl_one i
theorem zero_len (n : Nat) : (Builtin.zeroCells zl n).toList.length = n * 6 := by simp [Builtin.zeroCells, zl]
/-- clear on a row of its own. -/
theorem run_clear_own {W : World} {base n c : Nat} {p : Option Addr} {l : List Att} (h : W.ownsRow base 32 6 (.slice p n c) l.length (cls l)) (ty : TypeId) :
    ∃ W', (Builtin.clear_ #[22] ty #[.slice p n c]).run Tryz.prog W = .ok (.tuple #[]) W' ∧ Below base W W' := by
  have hu := Tryz.underlying22
  rcases h.2 with ⟨e, h0⟩ | ⟨g, cap, cur, e, hb, hk, h3, h4, h5, h6⟩
  · injection e with e1 e2 e3
    subst e1 e2 e3
    exact ⟨W, by simp [Builtin.clear_, run_underlying hu], Below.refl _ _⟩
  · injection e with e1 e2 e3
    subst e1 e2 e3
    cases hn : l.length with
    | zero => exact ⟨W, by simp [Builtin.clear_, run_underlying hu], Below.refl _ _⟩
    | succ m =>
      have hst := run_storeCells_at Tryz.prog g 0 32 (Builtin.zeroCells zl (m + 1)).toList 0 cur W hk (by rw [zero_len, h5]; omega) (zero_one _)
      have hz := zeroA
      have hzc : (Value.agg #[.int .i64 0, .int .i64 0, .int .i64 0, .int .u32 0, .int .i64 0, .int .i64 0]).cells = zl := rfl
      have key : ∀ R, (storeCells ⟨g, 0, none⟩ (Builtin.zeroCells zl (m + 1)).toList).run Tryz.prog W = .ok () (W.setRow g R) → ∃ W', (Builtin.clear_ #[22] ty #[.slice (some ⟨g, 0, none⟩) (m + 1) c]).run Tryz.prog W = .ok (.tuple #[]) W' ∧ Below base W W' := fun R hst =>
        ⟨W.setRow g R, by simp [Builtin.clear_, run_underlying hu, hz, hzc, hst], below_setRow (Below.refl _ _) hb _⟩
      exact key _ hst
/-- The number is none of 1 to 3. -/
def Not3 (m : Int) : Prop := m = 0 ∨ m = 4 ∨ m = -1
theorem pick_ok (x : Nat) (hx : x ≤ 255) (w : World) : Calls Tryz.prog 47 #[.int .u8 x] w fun e w' => (∃ m, e = .returned (.int .i64 m) ∧ Not3 m) ∧ Below w.heap.size w w' := by
  have HB := Lib.hid (bel_new w (.cells #[.int .i64 0, .int .i64 4, .int .i64 (-1)] 3))
  have hb := Bk.new w 3 #[.int .i64 0, .int .i64 4, .int .i64 (-1)]
  have d0 := hb.cell 0
  have d1 := hb.cell 1
  have d2 := hb.cell 2
  clear hb
  have hc : (x : Int) / 8 % 3 = 0 ∨ (x : Int) / 8 % 3 = 1 ∨ (x : Int) / 8 % 3 = 2 := by omega
  rcases hc with hc | hc | hc
  · go_enter Tryz.func47, Tryz.ntmps47
    go_wp2
    go_ret
    exact ⟨⟨_, rfl, .inl rfl⟩, HB.out⟩
  · go_enter Tryz.func47, Tryz.ntmps47
    go_wp2
    go_ret
    exact ⟨⟨_, rfl, .inr (.inl rfl)⟩, HB.out⟩
  · go_enter Tryz.func47, Tryz.ntmps47
    go_wp2
    go_ret
    exact ⟨⟨_, rfl, .inr (.inr rfl)⟩, HB.out⟩
end Go.Proofs.YtenggngcigkakaaGreatDoor
