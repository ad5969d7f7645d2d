/- Words for the document's queue: entries in cells, slices that read as entries, one slice more behind a slice of one's own, a queue of the document's. -/
import Derived.Test.YtlnjgbdekcgmpaaEp
import Derived.Maps.AppendAt
import Derived.Laws.OwnMore
namespace Go.Proofs.Ytlnjgbdekcgmpaa
open Go.RowKit

def cl2 (L : List En) : List Value := L.flatMap fun e => [.int .i64 e.1, .int .i64 e.2]
theorem cl2_length : ∀ L : List En, (cl2 L).length = L.length * 2
  | [] => rfl
  | e :: L => by
    have := cl2_length L
    unfold cl2 at *
    rw [List.flatMap_cons, List.length_append, this]
    simp only [List.length_cons, List.length_nil]; omega
theorem cl2_append (L M : List En) : cl2 (L ++ M) = cl2 L ++ cl2 M := by unfold cl2; rw [List.flatMap_append]
theorem cl2_nil : cl2 [] = [] := rfl
theorem cl2_one (L : List En) : ∀ u ∈ cl2 L, u.oneCell' = true := by
  intro u hu
  obtain ⟨e, _, h⟩ := List.mem_flatMap.1 hu
  rcases List.mem_cons.1 h with rfl | h
  · rfl
  · obtain rfl := List.mem_singleton.1 h
    rfl
theorem cl2_drop (L : List En) (i : Nat) (hi : i ≤ L.length) : (cl2 L).drop (i * 2) = cl2 (L.drop i) := by
  have h1 : cl2 L = cl2 (L.take i) ++ cl2 (L.drop i) := by rw [← cl2_append, List.take_append_drop]
  have h2 : (cl2 (L.take i)).length = i * 2 := by rw [cl2_length, List.length_take]; omega
  rw [h1, ← h2, List.drop_left]
theorem cl2_take (L : List En) (i : Nat) (hi : i ≤ L.length) : (cl2 L).take (i * 2) = cl2 (L.take i) := by
  have h1 : cl2 L = cl2 (L.take i) ++ cl2 (L.drop i) := by rw [← cl2_append, List.take_append_drop]
  have h2 : (cl2 (L.take i)).length = i * 2 := by rw [cl2_length, List.length_take]; omega
  rw [h1, ← h2, List.take_left]
theorem cl2_at {L : List En} {j : Nat} {x : En} (h : L[j]? = some x) : (cl2 L)[j * 2]? = some (.int .i64 x.1) ∧ (cl2 L)[j * 2 + 1]? = some (.int .i64 x.2) := by
  obtain ⟨hj, rfl⟩ := List.getElem?_eq_some_iff.1 h
  have e := cl2_drop L j (by omega)
  rw [List.drop_eq_getElem_cons hj] at e
  have e2 : cl2 (L[j] :: L.drop (j + 1)) = [.int .i64 L[j].1, .int .i64 L[j].2] ++ cl2 (L.drop (j + 1)) := by unfold cl2; rw [List.flatMap_cons]
  rw [e2] at e
  have k0 : ((cl2 L).drop (j * 2))[0]? = some (.int .i64 L[j].1) := by rw [e]; rfl
  have k1 : ((cl2 L).drop (j * 2))[1]? = some (.int .i64 L[j].2) := by rw [e]; rfl
  rw [List.getElem?_drop] at k0 k1
  exact ⟨by simpa using k0, k1⟩

theorem cell_keeps {w w' : World} (hb : Below w.heap.size w w') {p : Addr} {v : Value} (h : w.cell? p = some v) : w'.cell? p = some v := (hb.cell (World.block_lt_of_cell? _ _ h)).trans h
/-- The slice of n entries at a, with room for c, reads as L. -/
def RdN (w : World) (a : Option Addr) (n c : Nat) (L : List En) : Prop := n = L.length ∧ ((a = none ∧ n = 0 ∧ c = 0) ∨ ∃ ad : Addr, a = some ad ∧ ∀ j u, (cl2 L)[j]? = some u → w.cell? (ad.add j) = some u)
theorem RdN.below {w w' : World} {a : Option Addr} {n c : Nat} {L : List En} (h : RdN w a n c L) (hb : Below w.heap.size w w') : RdN w' a n c L := by
  refine ⟨h.1, h.2.imp id ?_⟩
  rintro ⟨ad, e, hc⟩
  exact ⟨ad, e, fun j u hj => cell_keeps hb (hc j u hj)⟩

theorem info_ent : (Try.prog.info? 63).map (fun i => (i.zero, i.size, i.bytes)) = some (some (.agg #[.int .i64 0, .int .i64 0]), 2, 16) := by kernel_rfl
/-- One slice more behind a slice of one's own. -/
theorem app_w {W : World} {base m c : Nat} {v : Value} {a : Option Addr} {L M : List En} (ho : W.ownsRow base 63 2 v L.length (cl2 L)) (hr : RdN W a m c M) (hl : L.length + M.length ≤ 1000) (hb : base ≤ W.heap.size) :
    ∃ a' n' c' W', (Builtin.append_ #[58, 58] 58 #[v, .slice a m c]).run Try.prog W = .ok (.slice a' n' c') W' ∧ W'.ownsRow base 63 2 (.slice a' n' c') (L ++ M).length (cl2 (L ++ M)) ∧ Kept (fun g => v.ownBlock = some g) W W' ∧ ((Value.slice a' n' c').ownBlock = v.ownBlock ∨ (Value.slice a' n' c').ownBlock = some W.heap.size) := by
  obtain ⟨i0, hi, hz0, hz1, hz2⟩ := info_parts info_ent
  obtain ⟨rfl, h⟩ := hr
  rcases h with ⟨rfl, h0, rfl⟩ | ⟨ad, rfl, hc⟩
  · have hM : M = [] := List.eq_nil_of_length_eq_zero h0
    subst hM
    obtain ⟨a', n', c', rfl⟩ := own_slice ho
    refine ⟨a', n', c', W, ?_, by rw [List.append_nil]; exact ho, Kept.refl _ _, .inl rfl⟩
    exact run_append_owned_none (P := Try.prog) W base 58 58 63 i0 2 Try.underlying58 hi _ _ _ ho
  · obtain ⟨v', W', hrun, hown, hgr, _, hat⟩ := run_append_own_at (P := Try.prog) W base 58 58 63 i0 _ 2 16 Try.underlying58 hi hz0 hz1 hz2 rfl (by decide) v L.length (cl2 L) ho ad M.length c (cl2 M) (cl2_length M) hc (cl2_one M) (by unfold maxLen; omega) (by omega) hb
    obtain ⟨a', n', c', rfl⟩ := own_slice hown
    refine ⟨a', n', c', W', hrun, by rw [List.length_append, cl2_append]; exact hown, ⟨hgr.os, hgr.tape, hgr.output, hgr.size, fun k hk hs => hgr.block k hk fun e => hs e.symm⟩, hat⟩

/-! ### a queue of the document's -/
/-- The document's queue in block b: its entries in a row of its own (value v). -/
structure RqW (w : World) (b : Nat) (v : Value) (L : List En) : Prop where
  hb : Bk w b 60 #[.bool true, v]
  row : w.ownsRow 0 63 2 v L.length (cl2 L)
  rg : ∀ e ∈ L, I64 e.1 ∧ I64 e.2
  len : L.length ≤ 256
def RFoot (b : Nat) (v : Value) (g : Nat) : Prop := g = b ∨ v.ownBlock = some g
section
variable {w w' : World} {b : Nat} {v : Value} {L : List En}
theorem RqW.foot_lt (h : RqW w b v L) {g : Nat} (hg : RFoot b v g) : g < w.heap.size := by
  rcases hg with rfl | e
  · exact h.hb.lt
  · exact (h.row.lt g e).2
theorem RqW.kept {S : Nat → Prop} (h : RqW w b v L) (q : Kept S w w') (hs : ∀ g, RFoot b v g → ¬ S g) : RqW w' b v L :=
  ⟨h.hb.kept q (hs b (.inl rfl)), own_same h.row fun g hg => q.block g (h.row.lt g hg).2 (hs g (.inr hg)), h.rg, h.len⟩
theorem RqW.below (h : RqW w b v L) (q : Below w.heap.size w w') : RqW w' b v L := ⟨h.hb.below q, own_below h.row q, h.rg, h.len⟩
theorem RqW.c0 (h : RqW w b v L) : w.cell? ⟨b, 0, none⟩ = some (.bool true) := h.hb.cell 0
theorem RqW.c1 (h : RqW w b v L) : w.cell? ⟨b, 1, none⟩ = some v := h.hb.cell 1
theorem RqW.rb (h : RqW w b v L) : v.ownBlock ≠ some b := fun e => absurd (own_type h.row e h.hb) (by decide)
/-- The value of a queue's entries, written out. -/
theorem RqW.form (h : RqW w b v L) : ∃ a c, v = .slice a L.length c ∧ L.length ≤ c ∧ c ≤ maxLen ∧ ((a = none ∧ c = 0) ∨ ∃ g, a = some ⟨g, 0, none⟩ ∧ g < w.heap.size) ∧ (∀ j x, L[j]? = some x → ∃ g, a = some ⟨g, 0, none⟩ ∧ w.cell? ⟨g, j * 2, none⟩ = some (.int .i64 x.1) ∧ w.cell? ⟨g, j * 2 + 1, none⟩ = some (.int .i64 x.2)) := by
  rcases h.row.2 with ⟨rfl, h0⟩ | ⟨g, cap, cur, rfl, h1, h2, h3, h4, h5, h6⟩
  · have : L = [] := List.eq_nil_of_length_eq_zero h0
    subst this
    exact ⟨none, 0, rfl, Nat.le_refl _, by unfold maxLen; omega, .inl ⟨rfl, rfl⟩, fun j x hj => by simp at hj⟩
  · have hg : Bk w g 63 cur := h2
    have key : ∀ j u, (cl2 L)[j]? = some u → w.cell? ⟨g, j, none⟩ = some u := fun j u hj => by
      have hjl : j < (cl2 L).length := (List.getElem?_eq_some_iff.1 hj).1
      rw [cl2_length] at hjl
      rw [← h6, List.getElem?_take_of_lt hjl, Array.getElem?_toList] at hj
      rw [hg.cell]; exact hj
    exact ⟨_, cap, rfl, h3, h4, .inr ⟨g, rfl, hg.lt⟩, fun j x hj => ⟨g, rfl, key _ _ (cl2_at hj).1, key _ _ (cl2_at hj).2⟩⟩
end
/-- A part of a queue's entries: from lo up to hi. -/
theorem rd_part {w : World} {b g c : Nat} {L : List En} (h : RqW w b (.slice (some ⟨g, 0, none⟩) L.length c) L) (lo hi : Nat) (h1 : lo ≤ hi) (h2 : hi ≤ L.length) (ad : Addr) (he : lo < hi → ad = ⟨g, lo * 2, none⟩) (c' : Nat) : RdN w (some ad) (hi - lo) c' ((L.drop lo).take (hi - lo)) := by
  have hlen : ((L.drop lo).take (hi - lo)).length = hi - lo := by rw [List.length_take, List.length_drop]; omega
  refine ⟨hlen.symm, .inr ⟨ad, rfl, fun j u hj => ?_⟩⟩
  have hjl : j < (hi - lo) * 2 := by
    have := (List.getElem?_eq_some_iff.1 hj).1
    rwa [cl2_length, hlen] at this
  obtain rfl := he (by omega)
  have e : (⟨g, lo * 2, none⟩ : Addr).add j = ⟨g, lo * 2 + j, none⟩ := by unfold Addr.add; split <;> simp_all
  rw [e]
  have hc := h.row.cellAt (lo * 2 + j) (by omega)
  rw [hc]
  rw [← cl2_take _ _ (by rw [List.length_drop]; omega), ← cl2_drop _ _ (by omega), List.getElem?_take_of_lt hjl, List.getElem?_drop] at hj
  exact hj
end Go.Proofs.Ytlnjgbdekcgmpaa
