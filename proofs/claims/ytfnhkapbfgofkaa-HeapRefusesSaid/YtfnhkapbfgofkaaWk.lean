/- Words for memory: the program's heap (its struct's block b, its places' block p, its table's block t) and the document's (its struct's block c, its slots' block d). -/
import Derived.Test.YtfnhkapbfgofkaaWm
import Derived.Test.YtfnhkapbfgofkaaNk
import Derived.Test.YtfnhkapbfgofkaaSt
import Derived.Deep.MidRow
namespace Go.Proofs.Ytfnhkapbfgofkaa
open Go.RowKit

theorem bel_new (w : World) (o : Obj) : Below w.heap.size w (w.alloc o) := (Below.refl _ _).alloc (Nat.le_refl _) _
theorem cell_stays {w w' : World} (hb : Below w.heap.size w w') {b o : Nat} {v : Value} (h : w.cell? ⟨b, o, none⟩ = some v) : w'.cell? ⟨b, o, none⟩ = some v :=
  (hb.cell (p := ⟨b, o, none⟩) (World.block_lt_of_cell? _ _ h)).trans h

/-! ### the program's heap -/
/-- What the cell at j of a heap's places holds. -/
def pcell (v : Value) (O : Nat → Ob) (j : Nat) : Value := if j = 0 then v else ((obc (O ((j - 1) / 10)))[(j - 1) % 10]?).getD undef
def pcells (v : Value) (O : Nat → Ob) : Array Value := ((List.range 2561).map (pcell v O)).toArray
theorem pcells_size (v : Value) (O : Nat → Ob) : (pcells v O).size = 2561 := by simp [pcells]
theorem pcells_at (v : Value) (O : Nat → Ob) {j : Nat} (h : j < 2561) : (pcells v O)[j]? = some (pcell v O j) := by simp [pcells, h]
theorem obc_lt (o : Ob) {k : Nat} (hk : k < 10) : ∃ x, (obc o)[k]? = some x ∧ x.oneCell' = true := by
  match k, hk with
  | 0, _ => exact ⟨_, rfl, rfl⟩
  | 1, _ => exact ⟨_, rfl, rfl⟩
  | 2, _ => exact ⟨_, rfl, rfl⟩
  | 3, _ => exact ⟨_, rfl, rfl⟩
  | 4, _ => exact ⟨_, rfl, rfl⟩
  | 5, _ => exact ⟨_, rfl, rfl⟩
  | 6, _ => exact ⟨_, rfl, rfl⟩
  | 7, _ => exact ⟨_, rfl, rfl⟩
  | 8, _ => exact ⟨_, rfl, rfl⟩
  | 9, _ => exact ⟨_, rfl, rfl⟩
theorem pcell_o (v : Value) (O : Nat → Ob) (i : Nat) {k : Nat} (hk : k < 10) : some (pcell v O (1 + i * 10 + k)) = (obc (O i))[k]? := by
  obtain ⟨x, hx, _⟩ := obc_lt (O i) hk
  unfold pcell
  rw [if_neg (by omega), show (1 + i * 10 + k - 1) / 10 = i by omega, show (1 + i * 10 + k - 1) % 10 = k by omega, hx]; rfl
theorem pcells_o (v : Value) (O : Nat → Ob) {i : Nat} (hi : i < 256) {k : Nat} (hk : k < 10) : (pcells v O)[1 + i * 10 + k]? = (obc (O i))[k]? := by
  rw [pcells_at v O (by omega), pcell_o v O i hk]
theorem pcells_zero (v : Value) (O : Nat → Ob) : (pcells v O)[0]? = some v := by rw [pcells_at v O (by omega)]; rfl
theorem pcells_one {v : Value} (hv : v.oneCell' = true) (O : Nat → Ob) : (pcells v O).all (·.oneCell') = true := by
  rw [Array.all_eq_true_iff_forall_mem]
  intro u hu
  obtain ⟨j, _, rfl⟩ := List.mem_map.1 (show u ∈ (List.range 2561).map (pcell v O) by simpa [pcells] using hu)
  unfold pcell
  split
  · exact hv
  · obtain ⟨x, hx, h1⟩ := obc_lt (O ((j - 1) / 10)) (Nat.mod_lt (j - 1) (by decide))
    rw [hx]; exact h1
theorem pcells_ne (v : Value) (O : Nat → Ob) : ¬ pcells v O = #[] := fun h => by have := congrArg Array.size h; rw [pcells_size] at this; simp at this
theorem pcells_ext {v u : Value} {O P : Nat → Ob} {cs : Array Value} (hs : cs.size = 2561) (h0 : cs[0]? = some u) (h : ∀ i, i < 256 → ∀ k, k < 10 → cs[1 + i * 10 + k]? = (obc (P i))[k]?) (_ : v = v) (_ : O = O) : cs = pcells u P := by
  refine Array.ext_getElem? fun j => ?_
  by_cases hj : j < 2561
  · by_cases hz : j = 0
    · subst hz; rw [h0, pcells_zero]
    · obtain ⟨i, k, hi, hk, rfl⟩ : ∃ i k, i < 256 ∧ k < 10 ∧ j = 1 + i * 10 + k := ⟨(j - 1) / 10, (j - 1) % 10, by omega, by omega, by omega⟩
      rw [h i hi k hk, pcells_o u P hi hk]
  · rw [Array.getElem?_eq_none (by omega), Array.getElem?_eq_none (by rw [pcells_size]; omega)]
theorem pcells_first (v u : Value) (O : Nat → Ob) : (pcells v O).setIfInBounds 0 u = pcells u O := by
  refine pcells_ext (v := v) (O := O) (by rw [Array.size_setIfInBounds, pcells_size]) (by simp [pcells_size]) (fun i hi k hk => ?_) rfl rfl
  rw [Array.getElem?_setIfInBounds, if_neg (by omega), pcells_o v O hi hk]
/-- Ten cells from q on. -/
def set10 (cs : Array Value) (q : Nat) (o : Ob) : Array Value :=
  (((((((((cs.setIfInBounds q (.int .i64 o.n)).setIfInBounds (q + 1) (.int .i64 o.a.1)).setIfInBounds (q + 2) (.int .u32 o.a.2)).setIfInBounds (q + 3) (.int .i64 o.b.1)).setIfInBounds (q + 4) (.int .u32 o.b.2)).setIfInBounds (q + 5) (.int .i64 o.c.1)).setIfInBounds (q + 6) (.int .u32 o.c.2)).setIfInBounds (q + 7) (.int .i64 o.d.1)).setIfInBounds (q + 8) (.int .u32 o.d.2)).setIfInBounds (q + 9) (.bool o.h)
theorem set10_size (cs : Array Value) (q : Nat) (o : Ob) : (set10 cs q o).size = cs.size := by simp [set10]
theorem set10_in {cs : Array Value} {q : Nat} (o : Ob) (h : q + 10 ≤ cs.size) {k : Nat} (hk : k < 10) : (set10 cs q o)[q + k]? = (obc o)[k]? := by
  have g0 : q < cs.size := by omega
  have g1 : q + 1 < cs.size := by omega
  have g2 : q + 2 < cs.size := by omega
  have g3 : q + 3 < cs.size := by omega
  have g4 : q + 4 < cs.size := by omega
  have g5 : q + 5 < cs.size := by omega
  have g6 : q + 6 < cs.size := by omega
  have g7 : q + 7 < cs.size := by omega
  have g8 : q + 8 < cs.size := by omega
  have g9 : q + 9 < cs.size := by omega
  match k, hk with
  | 0, _ => simp [set10, obc, g0]
  | 1, _ => simp [set10, obc, g1]
  | 2, _ => simp [set10, obc, g2]
  | 3, _ => simp [set10, obc, g3]
  | 4, _ => simp [set10, obc, g4]
  | 5, _ => simp [set10, obc, g5]
  | 6, _ => simp [set10, obc, g6]
  | 7, _ => simp [set10, obc, g7]
  | 8, _ => simp [set10, obc, g8]
  | 9, _ => simp [set10, obc, g9]
theorem set10_out {cs : Array Value} {q : Nat} (o : Ob) {j : Nat} (h : j < q ∨ q + 10 ≤ j) : (set10 cs q o)[j]? = cs[j]? := by
  unfold set10
  repeat rw [Array.getElem?_setIfInBounds, if_neg (by omega)]
theorem pcells_put (v : Value) (O : Nat → Ob) {i : Nat} (hi : i < 256) (o : Ob) : set10 (pcells v O) (1 + i * 10) o = pcells v (putO O i o) := by
  refine pcells_ext (v := v) (O := O) (by rw [set10_size, pcells_size]) (by rw [set10_out o (by omega), pcells_zero]) (fun j hj k hk => ?_) rfl rfl
  by_cases e : j = i
  · subst e
    rw [set10_in o (by rw [pcells_size]; omega) hk, putO_same]
  · rw [set10_out o (by omega), pcells_o v O hj hk, putO_other e]
/-- .. and the world in which they were stored. -/
def put10 (w : World) (b q : Nat) (o : Ob) : World :=
  (((((((((w.setCell ⟨b, q, none⟩ (.int .i64 o.n)).setCell ⟨b, q + 1, none⟩ (.int .i64 o.a.1)).setCell ⟨b, q + 2, none⟩ (.int .u32 o.a.2)).setCell ⟨b, q + 3, none⟩ (.int .i64 o.b.1)).setCell ⟨b, q + 4, none⟩ (.int .u32 o.b.2)).setCell ⟨b, q + 5, none⟩ (.int .i64 o.c.1)).setCell ⟨b, q + 6, none⟩ (.int .u32 o.c.2)).setCell ⟨b, q + 7, none⟩ (.int .i64 o.d.1)).setCell ⟨b, q + 8, none⟩ (.int .u32 o.d.2)).setCell ⟨b, q + 9, none⟩ (.bool o.h)
theorem Bk.put10 {w : World} {b : Nat} {t : TypeId} {cs : Array Value} (h : Bk w b t cs) (q : Nat) (o : Ob) : Bk (put10 w b q o) b t (set10 cs q o) :=
  (((((((((h.put _ _).put _ _).put _ _).put _ _).put _ _).put _ _).put _ _).put _ _).put _ _).put _ _
theorem kept_put10 {S : Nat → Prop} {a w : World} (h : Kept S a w) {b : Nat} (hb : a.heap.size ≤ b ∨ S b) (q : Nat) (o : Ob) : Kept S a (put10 w b q o) :=
  (((((((((h.put (p := ⟨b, q, none⟩) hb _).put (p := ⟨b, q + 1, none⟩) hb _).put (p := ⟨b, q + 2, none⟩) hb _).put (p := ⟨b, q + 3, none⟩) hb _).put (p := ⟨b, q + 4, none⟩) hb _).put (p := ⟨b, q + 5, none⟩) hb _).put (p := ⟨b, q + 6, none⟩) hb _).put (p := ⟨b, q + 7, none⟩) hb _).put (p := ⟨b, q + 8, none⟩) hb _).put (p := ⟨b, q + 9, none⟩) hb _

structure HW (w : World) (b p t : Nat) (H : Hp) : Prop where
  ok : H.Ok
  hb : Bk w b 49 #[.pointer (some ⟨p, 0, none⟩)]
  tab : TabW w t H.t
  at_ : ∃ O, Bk w p 82 (pcells (.pointer (some ⟨t, 0, none⟩)) O) ∧ ∀ i, i < H.t.n → H.t.s i = 1 → O i = H.o i
/-- The heap's blocks. -/
def HFoot (b p t : Nat) : Nat → Prop := fun g => g = b ∨ g = p ∨ g = t
section
variable {w w' : World} {b p t : Nat} {H : Hp}
theorem HW.bt (h : HW w b p t H) : b < w.heap.size := h.hb.lt
theorem HW.pt (h : HW w b p t H) : p < w.heap.size := by obtain ⟨_, h1, _⟩ := h.at_; exact h1.lt
theorem HW.tt (h : HW w b p t H) : t < w.heap.size := h.tab.bt
theorem HW.foot_lt (h : HW w b p t H) {g : Nat} (hg : HFoot b p t g) : g < w.heap.size := by rcases hg with rfl | rfl | rfl; exact h.bt; exact h.pt; exact h.tt
theorem HW.pb (h : HW w b p t H) : p ≠ b := by
  obtain ⟨_, h1, _⟩ := h.at_
  rintro rfl
  exact absurd (h1.uniq h.hb).1 (by decide)
theorem HW.tb (h : HW w b p t H) : t ≠ b := by
  rintro rfl
  exact absurd (h.tab.bk.uniq h.hb).1 (by decide)
theorem HW.tp (h : HW w b p t H) : t ≠ p := by
  obtain ⟨_, h1, _⟩ := h.at_
  rintro rfl
  exact absurd (h1.uniq h.tab.bk).1 (by decide)
theorem HW.same (h : HW w b p t H) (e : ∀ g, HFoot b p t g → w'.heap[g]? = w.heap[g]?) : HW w' b p t H :=
  ⟨h.ok, h.hb.same (e _ (.inl rfl)), h.tab.same (e _ (.inr (.inr rfl))), by obtain ⟨O, h1, h2⟩ := h.at_; exact ⟨O, h1.same (e _ (.inr (.inl rfl))), h2⟩⟩
theorem HW.kept {S : Nat → Prop} (h : HW w b p t H) (k : Kept S w w') (hs : ∀ g, HFoot b p t g → ¬ S g) : HW w' b p t H := h.same fun g hg => k.block g (h.foot_lt hg) (hs g hg)
theorem HW.below (h : HW w b p t H) (k : Below w.heap.size w w') : HW w' b p t H := h.same fun g hg => k.block g (h.foot_lt hg)
theorem HW.c0 (h : HW w b p t H) : w.cell? ⟨b, 0, none⟩ = some (.pointer (some ⟨p, 0, none⟩)) := h.hb.cell 0
theorem HW.cp (h : HW w b p t H) : w.cell? ⟨p, 0, none⟩ = some (.pointer (some ⟨t, 0, none⟩)) := by obtain ⟨O, h1, _⟩ := h.at_; rw [h1.cell, pcells_zero]
/-- A block of another type is none of the heap's. -/
theorem HW.box (h : HW w b p t H) {A : Nat} {u : TypeId} {cs : Array Value} (hA : Bk w A u cs) (h1 : u ≠ 49) (h2 : u ≠ 82) (h3 : u ≠ 112) : ¬ HFoot b p t A := by
  obtain ⟨O, hp, _⟩ := h.at_
  rintro (rfl | rfl | rfl)
  · exact h1 (hA.uniq h.hb).1
  · exact h2 (hA.uniq hp).1
  · exact h3 (hA.uniq h.tab.bk).1
end
/-- The ten cells of an object inside a block. -/
def Ten (W : World) (b q : Nat) (o : Ob) : Prop :=
  W.cell? ⟨b, q, none⟩ = some (.int .i64 o.n) ∧ W.cell? ⟨b, q + 1, none⟩ = some (.int .i64 o.a.1) ∧ W.cell? ⟨b, q + 2, none⟩ = some (.int .u32 o.a.2) ∧ W.cell? ⟨b, q + 3, none⟩ = some (.int .i64 o.b.1) ∧ W.cell? ⟨b, q + 4, none⟩ = some (.int .u32 o.b.2) ∧
  W.cell? ⟨b, q + 5, none⟩ = some (.int .i64 o.c.1) ∧ W.cell? ⟨b, q + 6, none⟩ = some (.int .u32 o.c.2) ∧ W.cell? ⟨b, q + 7, none⟩ = some (.int .i64 o.d.1) ∧ W.cell? ⟨b, q + 8, none⟩ = some (.int .u32 o.d.2) ∧ W.cell? ⟨b, q + 9, none⟩ = some (.bool o.h)
theorem Bk.ten {W : World} {b : Nat} {t : TypeId} {cs : Array Value} (h : Bk W b t cs) {q : Nat} {o : Ob} (hq : ∀ k, k < 10 → cs[q + k]? = (obc o)[k]?) : Ten W b q o :=
  ⟨(h.cell _).trans (hq 0 (by omega)), (h.cell _).trans (hq 1 (by omega)), (h.cell _).trans (hq 2 (by omega)), (h.cell _).trans (hq 3 (by omega)), (h.cell _).trans (hq 4 (by omega)), (h.cell _).trans (hq 5 (by omega)), (h.cell _).trans (hq 6 (by omega)), (h.cell _).trans (hq 7 (by omega)), (h.cell _).trans (hq 8 (by omega)), (h.cell _).trans (hq 9 (by omega))⟩
theorem Ten.below {W W' : World} {b q : Nat} {o : Ob} (h : Ten W b q o) (k : Below W.heap.size W W') : Ten W' b q o := by
  obtain ⟨h0, h1, h2, h3, h4, h5, h6, h7, h8, h9⟩ := h
  exact ⟨cell_stays k h0, cell_stays k h1, cell_stays k h2, cell_stays k h3, cell_stays k h4, cell_stays k h5, cell_stays k h6, cell_stays k h7, cell_stays k h8, cell_stays k h9⟩
theorem HW.ten {w : World} {b p t : Nat} {H : Hp} (h : HW w b p t H) {i : Nat} (hi : i < H.t.n) (hs : H.t.s i = 1) : Ten w p (1 + i * 10) (H.o i) := by
  obtain ⟨O, h1, h2⟩ := h.at_
  have hn := h.ok.t.hi
  rw [← h2 i hi hs]
  exact h1.ten fun k hk => pcells_o _ O (by omega) hk
/-- An object is stored at a slot, whatever becomes of the table. -/
theorem HW.put {w : World} {b p t : Nat} {H K : Hp} (h : HW w b p t H) {i : Nat} (hi : i < 256) (o : Ob) (hK : K.Ok) (ht : K.t = H.t) (ho : ∀ j, j < K.t.n → K.t.s j = 1 → K.o j = putO H.o i o j) : HW (put10 w p (1 + i * 10) o) b p t K := by
  have hk : Kept (· = p) w (put10 w p (1 + i * 10) o) := kept_put10 (Kept.refl (fun g => g = p) w) (.inr rfl) _ o
  obtain ⟨O, h1, h2⟩ := h.at_
  refine ⟨hK, h.hb.kept hk fun e => h.pb e.symm, by rw [ht]; exact h.tab.kept hk h.tp, putO O i o, ?_, fun j hj hs => ?_⟩
  · rw [← pcells_put _ O hi o]; exact h1.put10 _ o
  · rw [ho j hj hs]
    by_cases e : j = i
    · subst e; rw [putO_same, putO_same]
    · rw [putO_other e, putO_other e]
      exact h2 j (by rw [← ht]; exact hj) (by rw [← ht]; exact hs)
/-- A heap that New or Copy did not make. -/
def HNo (w : World) (v : Option Addr) : Prop := v = none ∨ ∃ b, v = some ⟨b, 0, none⟩ ∧ Bk w b 49 #[.pointer none]
theorem HNo.below {w w' : World} {v : Option Addr} (h : HNo w v) (hb : Below w.heap.size w w') : HNo w' v := by
  rcases h with rfl | ⟨b, rfl, h⟩
  · exact .inl rfl
  · exact .inr ⟨b, rfl, h.below hb⟩
end Go.Proofs.Ytfnhkapbfgofkaa
