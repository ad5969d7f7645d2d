/- Names in cells of two: one of them; parts of a row; a part behind a row of one's own. -/
import Derived.Test.YtfnhkapbfgofkaaWp
import Derived.Laws.AppendOwnNone
import Derived.Lib.AppendZeros
import Derived.Lib.SliceRun
namespace Go.Proofs.Ytfnhkapbfgofkaa
open Go.RowKit

theorem pairs_append (L M : List (Nat × Nat)) : pairs (L ++ M) = pairs L ++ pairs M := by unfold pairs; rw [List.flatMap_append]
theorem pairs_one (L : List (Nat × Nat)) : ∀ u ∈ pairs L, u.oneCell' = true := by
  intro u hu
  obtain ⟨r, _, h⟩ := List.mem_flatMap.1 hu
  simp only [List.mem_cons, List.not_mem_nil, or_false] at h
  rcases h with rfl | rfl <;> rfl
theorem pairs_at {L : List (Nat × Nat)} {j : Nat} {r : Nat × Nat} (h : L[j]? = some r) : (pairs L)[j * 2]? = some (.int .i64 r.1) ∧ (pairs L)[j * 2 + 1]? = some (.int .u32 r.2) := by
  obtain ⟨hj, e⟩ := List.getElem?_eq_some_iff.1 h
  have hs : L = L.take j ++ (r :: L.drop (j + 1)) := by rw [← e]; simp
  have hl : (pairs (L.take j)).length = j * 2 := by rw [pairs_len, List.length_take]; omega
  have h2 : pairs L = pairs (L.take j) ++ ([.int .i64 r.1, .int .u32 r.2] ++ pairs (L.drop (j + 1))) := by
    conv => lhs; rw [hs]
    rw [pairs_append]; rfl
  rw [h2]
  constructor
  · rw [List.getElem?_append_right (by omega), hl, Nat.sub_self]; rfl
  · rw [List.getElem?_append_right (by omega), hl, show j * 2 + 1 - j * 2 = 1 by omega]; rfl
/-- Where a row that is not empty lies, and its names. -/
theorem row_at {w : World} {base : Nat} {p : Option Addr} {n c : Nat} {R : List (Nat × Nat)} (h : w.ownsRow base 34 2 (.slice p n c) n (pairs R)) (hl : R.length = n) (hn : 0 < n) : ∃ g, p = some ⟨g, 0, none⟩ ∧ n ≤ c ∧ c ≤ 9223372036854775807 ∧ g < w.heap.size ∧ (∃ cs, Bk w g 34 cs) ∧ ∀ j r, R[j]? = some r → w.cell? ⟨g, j * 2, none⟩ = some (.int .i64 r.1) ∧ w.cell? ⟨g, j * 2 + 1, none⟩ = some (.int .u32 r.2) := by
  rcases h.2 with ⟨e, h0⟩ | ⟨g, cap, cur, e, h1, h2, h3, h4, h5, h6⟩
  · omega
  · injection e with e1 e2 e3
    subst e1 e3
    have hg : Bk w g 34 cur := h2
    have key : ∀ j u, (pairs R)[j]? = some u → w.cell? ⟨g, j, none⟩ = some u := fun j u hj => by
      have hjl : j < (pairs R).length := (List.getElem?_eq_some_iff.1 hj).1
      rw [pairs_len] at hjl
      rw [← h6, List.getElem?_take_of_lt (by omega), Array.getElem?_toList] at hj
      rw [hg.cell]; exact hj
    exact ⟨g, rfl, h3, by unfold maxLen at h4; omega, hg.lt, ⟨_, hg⟩, fun j r hr => ⟨key _ _ (pairs_at hr).1, key _ _ (pairs_at hr).2⟩⟩
/-- The slice of n names at a, with room for c, reads as L. -/
def RdP (w : World) (a : Option Addr) (n c : Nat) (L : List (Nat × Nat)) : Prop := n = L.length ∧ ((a = none ∧ n = 0 ∧ c = 0) ∨ ∃ ad : Addr, a = some ad ∧ ∀ j u, (pairs L)[j]? = some u → w.cell? (ad.add j) = some u)
/-- One slice more behind a slice of one's own. -/
theorem app_p {W : World} {base m c : Nat} {v : Value} {a : Option Addr} {L M : List (Nat × Nat)} (ho : W.ownsRow base 34 2 v L.length (pairs L)) (hr : RdP W a m c M) (hl : L.length + M.length ≤ 1000) (hb : base ≤ W.heap.size) :
    ∃ v' W', (Builtin.append_ #[32, 32] 32 #[v, .slice a m c]).run Try.prog W = .ok v' W' ∧ W'.ownsRow base 34 2 v' (L ++ M).length (pairs (L ++ M)) ∧ Kept (fun g => v.ownBlock = some g) W W' ∧ (v'.ownBlock = v.ownBlock ∨ v'.ownBlock = some W.heap.size) := by
  obtain ⟨i0, hi, hz0, hz1, hz2⟩ := info_parts info_ref
  obtain ⟨rfl, h⟩ := hr
  rcases h with ⟨rfl, h0, rfl⟩ | ⟨ad, rfl, hc⟩
  · have hM : M = [] := List.eq_nil_of_length_eq_zero h0
    subst hM
    refine ⟨v, W, ?_, by rw [List.append_nil]; exact ho, Kept.refl _ _, .inl rfl⟩
    exact run_append_owned_none (P := Try.prog) W base 32 32 34 i0 2 Try.underlying32 hi _ _ _ ho
  · obtain ⟨v', W', hrun, hown, hgr, _, hf⟩ := run_append_own_at (P := Try.prog) W base 32 32 34 i0 _ 2 16 Try.underlying32 hi hz0 hz1 hz2 rfl (by decide) v L.length (pairs L) ho ad M.length c (pairs M) (pairs_len M) hc (pairs_one M) (by unfold maxLen; omega) (by omega) hb
    exact ⟨v', W', hrun, by rw [List.length_append, pairs_append]; exact hown, ⟨hgr.os, hgr.tape, hgr.output, hgr.size, fun k hk hs => hgr.block k hk fun e => hs e.symm⟩, hf⟩
theorem pairs_drop (L : List (Nat × Nat)) (i : Nat) (hi : i ≤ L.length) : (pairs L).drop (i * 2) = pairs (L.drop i) := by
  have h1 : pairs L = pairs (L.take i) ++ pairs (L.drop i) := by rw [← pairs_append, List.take_append_drop]
  have h2 : (pairs (L.take i)).length = i * 2 := by rw [pairs_len, List.length_take]; omega
  rw [h1, ← h2, List.drop_left]
theorem pairs_take (L : List (Nat × Nat)) (i : Nat) (hi : i ≤ L.length) : (pairs L).take (i * 2) = pairs (L.take i) := by
  have h1 : pairs L = pairs (L.take i) ++ pairs (L.drop i) := by rw [← pairs_append, List.take_append_drop]
  have h2 : (pairs (L.take i)).length = i * 2 := by rw [pairs_len, List.length_take]; omega
  rw [h1, ← h2, List.take_left]
/-- A part of the names: from lo up to hi. -/
theorem rdp_part {w : World} {base g q c : Nat} {L : List (Nat × Nat)} (h : w.ownsRow base 34 2 (.slice (some ⟨g, 0, none⟩) q c) q (pairs L)) (hl : L.length = q) (lo hi : Nat) (h1 : lo ≤ hi) (h2 : hi ≤ q) (ad : Addr) (he : lo < hi → ad = ⟨g, lo * 2, none⟩) (c' : Nat) : RdP w (some ad) (hi - lo) c' ((L.drop lo).take (hi - lo)) := by
  have hlen : ((L.drop lo).take (hi - lo)).length = hi - lo := by rw [List.length_take, List.length_drop]; omega
  refine ⟨hlen.symm, .inr ⟨ad, rfl, fun j u hj => ?_⟩⟩
  have hjl : j < (hi - lo) * 2 := by
    have := (List.getElem?_eq_some_iff.1 hj).1
    rwa [pairs_len, hlen] at this
  obtain rfl := he (by omega)
  have e : (⟨g, lo * 2, none⟩ : Addr).add j = ⟨g, lo * 2 + j, none⟩ := by unfold Addr.add; split <;> simp_all
  rw [e]
  have hc := h.cellAt (lo * 2 + j) (by omega)
  rw [hc]
  rw [← pairs_take _ _ (by rw [List.length_drop]; omega), ← pairs_drop _ _ (by omega), List.getElem?_take_of_lt hjl, List.getElem?_drop] at hj
  exact hj
/-- The two appends that strike the y-th name: their runs. -/
theorem strike {w0 w : World} {g q c y : Nat} {R : List (Nat × Nat)} (h : w.ownsRow w0.heap.size 34 2 (.slice (some ⟨g, 0, none⟩) q c) q (pairs R)) (hl : R.length = q) (hy : y < q) (hq : q ≤ 300) (hb : w0.heap.size ≤ w.heap.size) :
    ∃ v1 w1 p2 c2 w2, (Builtin.append_ #[32, 32] 32 #[.slice (some ⟨w.heap.size, 0, none⟩) 0 0, .slice (some ⟨g, 0, none⟩) y c]).run Try.prog (w.alloc (.cells #[] 34)).drew = .ok v1 w1 ∧
      (Builtin.append_ #[32, 32] 32 #[v1, .slice (if c = y + 1 then some ⟨g, 0, none⟩ else some ⟨g, (y + 1) * 2, none⟩) (q - (y + 1)) (c - (y + 1))]).run Try.prog w1 = .ok (.slice p2 (q - 1) c2) w2 ∧
      w2.ownsRow w0.heap.size 34 2 (.slice p2 (q - 1) c2) (q - 1) (pairs (R.eraseIdx y)) ∧ Below w.heap.size w w1 ∧ Below w.heap.size w w2 ∧ ∀ x, (Value.slice p2 (q - 1) c2).ownBlock = some x → w.heap.size ≤ x := by
  have hbn : Below w.heap.size w (w.alloc (.cells #[] 34)).drew := bel_drew (bel_new _ _)
  have ho : (w.alloc (.cells #[] 34)).drew.ownsRow w.heap.size 34 2 (.slice (some ⟨w.heap.size, 0, none⟩) 0 0) ([] : List (Nat × Nat)).length (pairs []) := World.ownsRow_lit w #[] 0 (Nat.le_refl _) (by decide) rfl
  have P1 : RdP (w.alloc (.cells #[] 34)).drew (some ⟨g, 0, none⟩) y c (R.take y) := by
    have := rdp_part (own_below h hbn) hl 0 y (Nat.zero_le _) (by omega) ⟨g, 0, none⟩ (fun _ => rfl) c
    simpa using this
  obtain ⟨v1, w1, r1, o1, k1, f1⟩ := app_p (L := []) (M := R.take y) ho P1 (by rw [List.length_take]; simp; omega) (by simp)
  have hb1 : Below w.heap.size w w1 := hbn.trans (k1.below (by simp) fun x e => by
    have : (⟨w.heap.size, 0, none⟩ : Addr).block = x := by simpa [Value.ownBlock] using e
    exact Nat.le_of_eq this)
  have P2 : RdP w1 (if c = y + 1 then some ⟨g, 0, none⟩ else some ⟨g, (y + 1) * 2, none⟩) (q - (y + 1)) (c - (y + 1)) (R.drop (y + 1)) := by
    have e : (if c = y + 1 then some (⟨g, 0, none⟩ : Addr) else some ⟨g, (y + 1) * 2, none⟩) = some (if c = y + 1 then ⟨g, 0, none⟩ else ⟨g, (y + 1) * 2, none⟩) := by split <;> rfl
    rw [e]
    have hcq : q ≤ c := by
      rcases h.2 with ⟨e, h0⟩ | ⟨g', cap, cur, e, _, _, h3, _⟩
      · omega
      · injection e with e1 e2 e3; omega
    have := rdp_part (own_below h hb1) hl (y + 1) q (by omega) (Nat.le_refl _) (if c = y + 1 then ⟨g, 0, none⟩ else ⟨g, (y + 1) * 2, none⟩) (fun h => if_neg (by omega)) (c - (y + 1))
    rwa [List.take_of_length_le (l := R.drop (y + 1)) (by rw [List.length_drop]; omega)] at this
  rw [List.nil_append] at o1
  obtain ⟨v2, w2, r2, o2, k2, f2⟩ := app_p (L := R.take y) (M := R.drop (y + 1)) o1 P2 (by rw [List.length_take, List.length_drop]; omega) hb1.size
  have e2 : (R.take y ++ R.drop (y + 1)).length = q - 1 := by rw [List.length_append, List.length_take, List.length_drop]; omega
  rw [e2, ← List.eraseIdx_eq_take_drop_succ] at o2
  obtain ⟨p2, c2, rfl⟩ := own_ref o2
  exact ⟨v1, w1, p2, c2, w2, r1, r2, own_lower o2 hb, hb1, hb1.trans (k2.below hb1.size fun x e => (row_any o1 e).1), fun x e => (row_any o2 e).1⟩
end Go.Proofs.Ytfnhkapbfgofkaa
