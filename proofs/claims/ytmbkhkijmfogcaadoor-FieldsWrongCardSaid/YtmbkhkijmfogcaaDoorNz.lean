/- Slices of references: what clear does to one's own; lists of references of objects. -/
import Derived.Test.YtmbkhkijmfogcaaDoorNy
namespace Go.Proofs.YtmbkhkijmfogcaaDoor
open Go.RowKit

theorem zeroRef (w : World) : (zeroValue 24).run Tryd.prog w = .ok (.agg #[.int .i64 0, .int .u32 0]) w := by kernel_rfl
def zr : Array Value := #[.int .i64 0, .int .u32 0]
theorem zr_one (n : Nat) : ∀ v ∈ (Builtin.zeroCells zr n).toList, v.oneCell' = true := by
  intro v hv
  rw [Array.mem_toList_iff] at hv
  unfold Builtin.zeroCells at hv
  obtain ⟨i, _, rfl⟩ := Array.mem_map.1 hv
  have h : i % 2 < 2 := Nat.mod_lt _ (by decide)
  show (zr[i % 2]!).oneCell' = true
  generalize i % 2 = k at h
  match k, h with
  | 0, _ => rfl
  | 1, _ => rfl
theorem zr_len (n : Nat) : (Builtin.zeroCells zr n).toList.length = n * 2 := by simp [Builtin.zeroCells, zr]
theorem clear_refs {W : World} {base : Nat} {p : Option Addr} {c : Nat} {l : List Rf} (h : W.ownsRow base 24 2 (.slice p l.length c) l.length (rcls l)) (ty : TypeId) :
    ∃ W', (Builtin.clear_ #[37] ty #[.slice p l.length c]).run Tryd.prog W = .ok (.tuple #[]) W' ∧ Kept (fun k => (Value.slice p l.length c).ownBlock = some k) W W' := by
  have hu := Tryd.underlying37
  rcases h.2 with ⟨e, h0⟩ | ⟨g, cap, cur, e, hb, hk, h3, h4, h5, h6⟩
  · rw [e]
    exact ⟨W, by simp [Builtin.clear_, run_underlying hu], Kept.refl _ _⟩
  · have hk : Bk W g 24 cur := hk
    injection e with e1 e2 e3
    subst e1 e3
    obtain ⟨n, hn⟩ : ∃ n, l.length = n := ⟨_, rfl⟩
    rw [hn] at h3 h6 ⊢
    cases n with
    | zero => exact ⟨W, by simp [Builtin.clear_, run_underlying hu], Kept.refl _ _⟩
    | succ m =>
      have hst := run_storeCells_at Tryd.prog g 0 24 (Builtin.zeroCells zr (m + 1)).toList 0 cur W hk (by rw [zr_len]; omega) (zr_one _)
      have hz := zeroRef
      have hzc : (Value.agg #[.int .i64 0, .int .u32 0]).cells = zr := rfl
      have key : ∀ R, (storeCells ⟨g, 0, none⟩ (Builtin.zeroCells zr (m + 1)).toList).run Tryd.prog W = .ok () (W.setRow g R) → (Builtin.clear_ #[37] ty #[.slice (some ⟨g, 0, none⟩) (m + 1) c]).run Tryd.prog W = .ok (.tuple #[]) (W.setRow g R) := fun R hst => by
        simp [Builtin.clear_, run_underlying hu, hz, hzc, hst]
      refine ⟨_, key _ hst, rfl, rfl, rfl, by simp, fun k _ h => setRow_other W g k _ fun e => h ?_⟩
      subst e
      rfl

theorem selF_tail {q : Ob} (h : Poss q) {k : Nat} (hk : q.n ≤ k) : selF q k = [] := by
  unfold selF
  rw [List.filter_eq_nil_iff]
  intro j hj
  rw [List.mem_range'_1] at hj
  rw [h.em j (by omega) (by omega)]
  decide
theorem refs_mk (n : Int) (h : Bool) : refs (mk n h) = [] := rfl
theorem poss_bare {q : Ob} (h : Poss q) : Poss (mk q.n q.h) := ⟨h.n0, h.n4, h.hh, fun j _ => by rw [mk_fld]; exact rfok_none, fun j _ _ => mk_fld _ _ j⟩
end Go.Proofs.YtmbkhkijmfogcaaDoor
