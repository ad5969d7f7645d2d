/- Memory of the statements' desk: its block, the rows of the leases and of the times, the program's desk. -/
import Derived.Test.YtfemfgpciogbeaaYw
import Derived.Test.YtfemfgpciogbeaaYn
import Derived.Test.YtfemfgpciogbeaaYy
import Derived.Laws.OwnMore
namespace Go.Proofs.Ytfemfgpciogbeaa
open Go.RowKit

def us (U : List Nat) : List Value := U.map (fun u : Nat => Value.int .i64 (u : Int))
theorem us_at {U : List Nat} {k u : Nat} (h : U[k]? = some u) : (us U)[k]? = some (.int .i64 u) := by simp [us, h]
theorem us_set (U : List Nat) (k y : Nat) : (us U).set k (.int .i64 y) = us (U.set k y) := by simp [us]
theorem us_len (U : List Nat) : (us U).length = U.length := by simp [us]
theorem us_snoc (U : List Nat) (y : Nat) : us (U ++ [y]) = us U ++ [.int .i64 y] := by simp [us]
theorem us_one (U : List Nat) : ∀ v ∈ us U, v.oneCell' = true := by
  intro v hv
  obtain ⟨u, _, rfl⟩ := List.mem_map.1 hv
  rfl
def Lw.ls (S : Lw) : List Ro := S.L.map lro
theorem Lw.ls_len (S : Lw) : S.ls.length = S.L.length := by simp [Lw.ls]
theorem Lw.ls_at {S : Lw} {k : Nat} {r : Nat × Nat} (h : S.L[k]? = some r) : S.ls[k]? = some (lro r) := by simp [Lw.ls, h]

/-- The statements' desk at X, over the program's desk at b. -/
structure LW (w0 w : World) (X b k a : Nat) (pl : Option Addr) (cl : Nat) (pu : Option Addr) (cu n : Nat) (okb : Bool) (j : Nat) (S : Lw) : Prop where
  ok : S.Ok j
  ln : S.L.length = n
  ds : DSt w0 w b k a S.D
  hx : Bk w X 62 #[.pointer (some ⟨b, 0, none⟩), .slice pl n cl, .slice pu n cu, .int .i64 S.now, .bool okb]
  hl : w.ownsRow w0.heap.size 33 3 (.slice pl n cl) n (ocls S.ls)
  hu : w.ownsRow w0.heap.size 2 1 (.slice pu n cu) n (us S.U)
  lo : w0.heap.size ≤ X
/-- The blocks that a move may turn. -/
def LFt (X b k a : Nat) (pl pu : Option Addr) (g : Nat) : Prop := g = X ∨ DFoot b k a g ∨ (∃ ad : Addr, pl = some ad ∧ ad.block = g) ∨ ∃ ad : Addr, pu = some ad ∧ ad.block = g
section
variable {w0 w w' : World} {X b k a cl cu n j : Nat} {pl pu : Option Addr} {okb : Bool} {S : Lw}
theorem LW.quiet (h : LW w0 w X b k a pl cl pu cu n okb j S) (q : Below w.heap.size w w') : LW w0 w' X b k a pl cl pu cu n okb j S :=
  ⟨h.ok, h.ln, h.ds.quiet q, h.hx.below q, own_below h.hl q, own_below h.hu q, h.lo⟩
theorem LW.bel (h : LW w0 w X b k a pl cl pu cu n okb j S) : Below w0.heap.size w0 w := h.ds.bel
theorem LW.un (h : LW w0 w X b k a pl cl pu cu n okb j S) : S.U.length = n := by rw [← h.ok.len]; exact h.ln
/-- Behind a call on the program's desk. -/
theorem LW.call {D : Dk} {i : Nat} (h : LW w0 w X b k a pl cl pu cu n okb j S) (q : Kept (DFoot b k a) w w') (hs : DSt w0 w' b k a D) (ho : Lw.Ok ⟨D, S.L, S.U, S.now⟩ i) : LW w0 w' X b k a pl cl pu cu n okb i ⟨D, S.L, S.U, S.now⟩ :=
  ⟨ho, h.ln, hs, h.ds.f.keep h.hx q, own_kept h.hl h.ds.f q, own_kept h.hu h.ds.f q, h.lo⟩
theorem LW.upto {i : Nat} (h : LW w0 w X b k a pl cl pu cu n okb j S) (ho : S.Ok i) : LW w0 w X b k a pl cl pu cu n okb i S := ⟨ho, h.ln, h.ds, h.hx, h.hl, h.hu, h.lo⟩
theorem LW.row_ne {e : TypeId} {s q : Nat} {v : Value} {xs : List Value} (h : LW w0 w X b k a pl cl pu cu n okb j S) (ho : w.ownsRow w0.heap.size e s v q xs) (ht : e ≠ 62 := by decide) : v.ownBlock ≠ some X := fun c => ht (own_type ho c h.hx).symm
/-- A block of another type is no part of it. -/
theorem LW.off {A : Nat} {t : TypeId} {cs : Array Value} (h : LW w0 w X b k a pl cl pu cu n okb j S) (hA : Bk w A t cs) (h1 : t ≠ 54 := by decide) (h2 : t ≠ 105 := by decide) (h3 : t ≠ 78 := by decide) (h4 : t ≠ 62 := by decide) (h5 : t ≠ 33 := by decide) (h6 : t ≠ 2 := by decide) : ¬ LFt X b k a pl pu A := by
  rintro (rfl | e | ⟨ad, rfl, rfl⟩ | ⟨ad, rfl, rfl⟩)
  · exact h4 (hA.uniq h.hx).1
  · exact h.ds.f.off hA h1 h2 h3 e
  · exact h5 (own_type h.hl rfl hA)
  · exact h6 (own_type h.hu rfl hA)
/-- A store into the desk of the statements. -/
theorem setX {m : Nat} {v : Value} (h : LW w0 w X b k a pl cl pu cu n okb j S) : DSt w0 (w.setCell ⟨X, m, none⟩ v) b k a S.D ∧ (w.setCell ⟨X, m, none⟩ v).ownsRow w0.heap.size 33 3 (.slice pl n cl) n (ocls S.ls) ∧ (w.setCell ⟨X, m, none⟩ v).ownsRow w0.heap.size 2 1 (.slice pu n cu) n (us S.U) := by
  have hoff : ¬ DFoot b k a X := h.ds.f.off h.hx (by decide) (by decide) (by decide)
  have hk : Kept (· = X) w (w.setCell ⟨X, m, none⟩ v) := (Kept.refl _ w).put1 m v
  refine ⟨⟨h.ds.f.kept hk (fun g hg e => hoff (e ▸ hg)), h.ds.bel.setCell (p := ⟨X, m, none⟩) h.lo v, h.ds.lo⟩, ?_, ?_⟩
  · exact own_same h.hl fun g hg => Below.heap_setCell _ _ _ _ (fun e => by
      have e2 : g = X := e
      exact h.row_ne h.hl (by decide) (by rw [← e2]; exact hg))
  · exact own_same h.hu fun g hg => Below.heap_setCell _ _ _ _ (fun e => by
      have e2 : g = X := e
      exact h.row_ne h.hu (by decide) (by rw [← e2]; exact hg))
theorem LW.wait {y : Nat} (h : LW w0 w X b k a pl cl pu cu n okb j S) (hy : y ≤ 7) : LW w0 (w.setCell ⟨X, 3, none⟩ (.int .i64 ((S.now + y : Nat) : Int))) X b k a pl cl pu cu n okb (j + 1) ⟨S.D, S.L, S.U, S.now + y⟩ := by
  obtain ⟨h1, h2, h3⟩ := setX (m := 3) (v := .int .i64 ((S.now + y : Nat) : Int)) h
  exact ⟨h.ok.wait hy, h.ln, h1, h.hx.put 3 _, h2, h3, h.lo⟩
theorem LW.setok {o : Bool} (h : LW w0 w X b k a pl cl pu cu n okb j S) : LW w0 (w.setCell ⟨X, 4, none⟩ (.bool o)) X b k a pl cl pu cu n o j S := by
  obtain ⟨h1, h2, h3⟩ := setX (m := 4) (v := .bool o) h
  exact ⟨h.ok, h.ln, h1, h.hx.put 4 _, h2, h3, h.lo⟩
theorem LW.cells (h : LW w0 w X b k a pl cl pu cu n okb j S) : w.cell? ⟨X, 0, none⟩ = some (.pointer (some ⟨b, 0, none⟩)) ∧ w.cell? ⟨X, 1, none⟩ = some (.slice pl n cl) ∧ w.cell? ⟨X, 2, none⟩ = some (.slice pu n cu) ∧ w.cell? ⟨X, 3, none⟩ = some (.int .i64 S.now) ∧ w.cell? ⟨X, 4, none⟩ = some (.bool okb) ∧ X < w.heap.size := ⟨h.hx.cell 0, h.hx.cell 1, h.hx.cell 2, h.hx.cell 3, h.hx.cell 4, h.hx.lt⟩
theorem LW.fz (h : LW w0 w X b k a pl cl pu cu n okb j S) (i : Nat) : w.frozen? ⟨X, i, none⟩ = false := h.hx.frozen i
/-- The lease at a place, and its time. -/
theorem row_atl {L : List (Nat × Nat)} {base q : Nat} {r : Nat × Nat} (hl : w.ownsRow base 33 3 (.slice pl n cl) n (ocls (L.map lro))) (hn : L.length = n) (hr : L[q]? = some r) : ∃ g, pl = some ⟨g, 0, none⟩ ∧ g < w.heap.size ∧ w.cell? ⟨g, q * 3, none⟩ = some (.int .i64 3) ∧ w.cell? ⟨g, q * 3 + 1, none⟩ = some (.int .i64 r.1) ∧ w.cell? ⟨g, q * 3 + 2, none⟩ = some (.int .u32 r.2) := by
  have hq : q < n := by rw [← hn]; exact (List.getElem?_eq_some_iff.1 hr).1
  have hlen : (L.map lro).length = n := by simp [hn]
  have hl2 := hl
  rw [← hlen] at hl2
  have hrd := RdO.of_own hl2
  rw [hlen] at hrd
  obtain ⟨g, off, e, hg, h1, h2, h3⟩ := hrd.cell (j := q) (by omega)
  have hoff : off = 0 := by
    rcases hl.2 with ⟨e2, _⟩ | ⟨g2, cap, cur, e2, _⟩
    · rw [e] at e2; simp at e2
    · rw [e] at e2; simp at e2; exact e2.1.2
  have e3 : (L.map lro)[q] = lro r := (List.getElem?_eq_some_iff.1 (show (L.map lro)[q]? = some (lro r) by simp [hr])).2
  subst hoff
  rw [e3] at h1 h2 h3
  rw [Nat.zero_add] at h1 h2 h3
  exact ⟨g, e, hg, h1, h2, h3⟩
theorem row_atu {U : List Nat} {base q u : Nat} (hu : w.ownsRow base 2 1 (.slice pu n cu) n (us U)) (hn : U.length = n) (hr : U[q]? = some u) : ∃ g, pu = some ⟨g, 0, none⟩ ∧ g < w.heap.size ∧ w.cell? ⟨g, q, none⟩ = some (.int .i64 u) ∧ w.frozen? ⟨g, q, none⟩ = false := by
  have hq : q < n := by rw [← hn]; exact (List.getElem?_eq_some_iff.1 hr).1
  rcases hu.2 with ⟨_, e2⟩ | ⟨g, cap, cur, e2, _, h2, _⟩
  · omega
  · simp at e2
    obtain ⟨rfl, rfl⟩ := e2
    have hb : Bk w g 2 cur := h2
    exact ⟨g, rfl, hb.lt, by rw [hu.cellAt q (by omega)]; exact us_at hr, hb.frozen q⟩
theorem LW.atl {q : Nat} {r : Nat × Nat} (h : LW w0 w X b k a pl cl pu cu n okb j S) (hr : S.L[q]? = some r) : ∃ g, pl = some ⟨g, 0, none⟩ ∧ g < w.heap.size ∧ w.cell? ⟨g, q * 3, none⟩ = some (.int .i64 3) ∧ w.cell? ⟨g, q * 3 + 1, none⟩ = some (.int .i64 r.1) ∧ w.cell? ⟨g, q * 3 + 2, none⟩ = some (.int .u32 r.2) := row_atl h.hl h.ln hr
theorem LW.atu {q u : Nat} (h : LW w0 w X b k a pl cl pu cu n okb j S) (hr : S.U[q]? = some u) : ∃ g, pu = some ⟨g, 0, none⟩ ∧ g < w.heap.size ∧ w.cell? ⟨g, q, none⟩ = some (.int .i64 u) ∧ w.frozen? ⟨g, q, none⟩ = false := row_atu h.hu h.un hr
theorem LW.foot {g : Nat} (h : LW w0 w X b k a pl cl pu cu n okb j S) (hg : LFt X b k a pl pu g) : g < w.heap.size := by
  rcases hg with rfl | e | ⟨ad, rfl, rfl⟩ | ⟨ad, rfl, rfl⟩
  · exact h.hx.lt
  · exact h.ds.f.foot_lt e
  · exact (h.hl.lt _ rfl).2
  · exact (h.hu.lt _ rfl).2
/-- Another block is turned. -/
theorem LW.past {A : Nat} (h : LW w0 w X b k a pl cl pu cu n okb j S) (q : Kept (· = A) w w') (hA : ∀ g, LFt X b k a pl pu g → g ≠ A) (hlo : w0.heap.size ≤ A) : LW w0 w' X b k a pl cl pu cu n okb j S :=
  ⟨h.ok, h.ln, ⟨h.ds.f.kept q (fun g hg => hA g (.inr (.inl hg))), h.ds.bel.trans (q.below h.ds.bel.size (by rintro g rfl; exact hlo)), h.ds.lo⟩, h.hx.kept q (hA X (.inl rfl)),
    own_same h.hl (fun g hg => q.block g (h.hl.lt g hg).2 (by
      cases pl with
      | none => cases hg
      | some ad => exact hA g (.inr (.inr (.inl ⟨ad, rfl, Option.some.inj hg⟩))))),
    own_same h.hu (fun g hg => q.block g (h.hu.lt g hg).2 (by
      cases pu with
      | none => cases hg
      | some ad => exact hA g (.inr (.inr (.inr ⟨ad, rfl, Option.some.inj hg⟩))))), h.lo⟩
end
end Go.Proofs.Ytfemfgpciogbeaa
