/- What a []api.Attempt, a []Entry and an Entry among the arguments hold. -/
import Derived.Test.YtenggngcigkakaaGreatDoorIf
import Derived.Test.YtenggngcigkakaaGreatDoorHen
import Derived.Deep.SlicePairs
namespace Go.Proofs.YtenggngcigkakaaGreatDoor
open Go.ChangeShapes Go.WideShapes Go.ChangeAt Go.RowKit

theorem list_of {α : Type} {P : Nat → α → Prop} (n : Nat) (h : ∀ j, j < n → ∃ x, P j x) : ∃ l : List α, l.length = n ∧ ∀ (j : Nat) (hj : j < l.length), P j l[j] := by
  induction n with
  | zero => exact ⟨[], rfl, fun j hj => by simp at hj⟩
  | succ n ih =>
    obtain ⟨l, h1, h2⟩ := ih fun j hj => h j (by omega)
    obtain ⟨x, hx⟩ := h n (by omega)
    refine ⟨l ++ [x], by simp [h1], fun j hj => ?_⟩
    by_cases e : j < l.length
    · rw [List.getElem_append_left e]; exact h2 j e
    · have hj2 : j = n := by simp at hj; omega
      subst hj2
      rw [List.getElem_append_right (by omega)]
      simpa [h1] using hx
theorem alist_of {H : Type} {enc : TypeId × Value → H} {W : World} {a : Option Addr} {len cap : Nat} {d : DataW H} {p : List MemPlace} (h : DataW.Trod enc Tryz.prog W 0 (fun _ => true) true 22 (.slice a len cap) d p) : ∃ l, RdA W (.slice a len cap) l ∧ AllRg l := by
  obtain ⟨fuel, hf⟩ := h
  rcases Go.Deep.open_slice Tryz.underlying22 hf with ⟨hcs, hx⟩ | ⟨a', len', cap', m, n, D, Pl, hcs, _, hl, hm, hmm, _, hi⟩
  · simp [Value.cells] at hcs
    obtain ⟨rfl, rfl, rfl⟩ := hcs
    exact ⟨[], RdA.nil W, fun a ha => (by cases ha)⟩
  · simp [Value.cells] at hcs
    obtain ⟨rfl, rfl, rfl⟩ := hcs
    simp only [if_true] at hmm
    have hce : Tryz.prog.cellsOf 32 = 6 := by kernel_rfl
    have each : ∀ j, j < len → ∃ x : Att, x.Rg ∧ ∀ q x', x.cl[q]? = some x' → W.cell? (a'.add (j * 6 + q)) = some x' := by
      intro j hj
      obtain ⟨cs', h1, h2⟩ := hi j (by omega)
      rw [hce] at h1
      obtain ⟨_, hlen, hcell⟩ := World.cells?_some h1
      match cs', hlen with
      | [c0, c1, c2, c3, c4, c5], _ =>
        obtain ⟨x, hx, e⟩ := att_cells h2
        refine ⟨x, hx, fun q x' hq => ?_⟩
        have hq6 : q < 6 := (List.getElem?_eq_some_iff.1 hq).1
        have hc := hcell q (by omega)
        rw [Go.Deep.add_add] at hc
        rw [hc, e]
        exact hq
    obtain ⟨l, rfl, h2⟩ := list_of len each
    refine ⟨l, ⟨some a', cap, rfl, hl, by unfold maxLen at hm; omega, fun e => (by cases e), fun h0 => ?_⟩, fun x hx => ?_⟩
    · obtain ⟨b, off, spot⟩ := a'
      have k0 := (h2 0 h0).2 0 _ rfl
      have hspot : spot = none := by simpa [Addr.add] using World.cell?_spot k0
      subst hspot
      refine ⟨b, off, rfl, World.block_lt_of_cell? _ _ k0, fun j x hj => ?_⟩
      have hjl := (List.getElem?_eq_some_iff.1 hj).1
      rw [cls_length] at hjl
      have e1 : j = j / 6 * 6 + j % 6 := by omega
      rw [e1, cls_at l (j / 6) (by omega) (j % 6) (by omega)] at hj
      have := (h2 (j / 6) (by omega)).2 (j % 6) x hj
      rw [add_plain, ← e1] at this
      exact this
    · obtain ⟨j, hj, rfl⟩ := List.getElem_of_mem hx
      exact (h2 j hj).1
set_option maxRecDepth 100000 in
theorem ent_cells {H : Type} {enc : TypeId × Value → H} {W : World} {base : Nat} {sp : Nat → Bool} {hd : Bool} {fuel : Nat} {c0 c1 c2 c3 : Value} {x : DataW H × List MemPlace} (h : DataW.trod enc Tryz.prog W base sp hd fuel 73 [c0, c1, c2, c3] = some x) : ∃ a : Ent, a.Rg ∧ c0 = .int .u8 a.u ∧ c1 = .int .u8 a.r ∧ c2 = .int .u8 a.y ∧ c3 = .int .u8 a.n := by
  obtain ⟨y0, y1, y2, y3, n, rfl, _, h0, h1, h2, h3⟩ := Go.Joins.trod_struct4 Tryz.underlying73 h
  have e8 : Tryz.prog.cellsOf 5 = 1 := by kernel_rfl
  dsimp only at h0 h1 h2 h3
  rw [e8] at h0 h1 h2 h3
  obtain ⟨t, e0, _, w0⟩ := DataW.trod_int (t := 5) Tryz.underlying5 h0
  obtain ⟨k, e1, _, w1⟩ := DataW.trod_int (t := 5) Tryz.underlying5 h1
  obtain ⟨i, e2, _, w2⟩ := DataW.trod_int (t := 5) Tryz.underlying5 h2
  obtain ⟨g, e3, _, w3⟩ := DataW.trod_int (t := 5) Tryz.underlying5 h3
  simp at e0 e1 e2 e3
  subst e0 e1 e2 e3
  have q0 := bounds_u8 w0
  have q1 := bounds_u8 w1
  have q2 := bounds_u8 w2
  have q3 := bounds_u8 w3
  refine ⟨⟨t.toNat, k.toNat, i.toNat, g.toNat⟩, ⟨by simp only; omega, by simp only; omega, by simp only; omega, by simp only; omega⟩, ?_, ?_, ?_, ?_⟩ <;> simp only <;> rw [Int.toNat_of_nonneg (by omega)]
theorem ents_of {H : Type} {enc : TypeId × Value → H} {W : World} {a : Option Addr} {len cap : Nat} {d : DataW H} {p : List MemPlace} (h : DataW.Trod enc Tryz.prog W 0 (fun _ => true) true 59 (.slice a len cap) d p) : ∃ l, RdE W (.slice a len cap) l := by
  obtain ⟨fuel, hf⟩ := h
  rcases Go.Deep.open_slice Tryz.underlying59 hf with ⟨hcs, hx⟩ | ⟨a', len', cap', m, n, D, Pl, hcs, _, hl, hm, hmm, _, hi⟩
  · simp [Value.cells] at hcs
    obtain ⟨rfl, rfl, rfl⟩ := hcs
    exact ⟨[], none, 0, rfl, Nat.le_refl _, by omega, fun a ha => (by cases ha), fun h => (by simp at h)⟩
  · simp [Value.cells] at hcs
    obtain ⟨rfl, rfl, rfl⟩ := hcs
    simp only [if_true] at hmm
    have hce : Tryz.prog.cellsOf 73 = 4 := by kernel_rfl
    have each : ∀ j, j < len → ∃ x : Ent, x.Rg ∧ W.cell? (a'.add (j * 4)) = some (.int .u8 x.u) ∧ W.cell? (a'.add (j * 4 + 1)) = some (.int .u8 x.r) ∧ W.cell? (a'.add (j * 4 + 2)) = some (.int .u8 x.y) ∧ W.cell? (a'.add (j * 4 + 3)) = some (.int .u8 x.n) := by
      intro j hj
      obtain ⟨cs', h1, h2⟩ := hi j (by omega)
      rw [hce] at h1
      obtain ⟨_, hlen, hcell⟩ := World.cells?_some h1
      match cs', hlen with
      | [c0, c1, c2, c3], _ =>
        obtain ⟨x, hx, rfl, rfl, rfl, rfl⟩ := ent_cells h2
        have r0 := hcell 0 (by omega)
        have r1 := hcell 1 (by omega)
        have r2 := hcell 2 (by omega)
        have r3 := hcell 3 (by omega)
        rw [Go.Deep.add_add] at r0 r1 r2 r3
        exact ⟨x, hx, by simpa using r0, by simpa using r1, by simpa using r2, by simpa using r3⟩
    obtain ⟨l, rfl, h2⟩ := list_of len each
    refine ⟨l, some a', cap, rfl, hl, by unfold maxLen at hm; omega, fun x hx => ?_, fun h0 => ?_⟩
    · obtain ⟨j, hj, rfl⟩ := List.getElem_of_mem hx
      exact (h2 j hj).1
    · obtain ⟨b, off, spot⟩ := a'
      have k0 := (h2 0 h0).2.1
      have hspot : spot = none := by simpa [Addr.add] using World.cell?_spot k0
      subst hspot
      refine ⟨b, off, rfl, World.block_lt_of_cell? _ _ k0, fun j hj => ?_⟩
      obtain ⟨_, h3, h4, h5, h6⟩ := h2 j hj
      rw [add_plain] at h3 h4 h5 h6
      exact ⟨h3, by rw [Nat.add_assoc]; exact h4, by rw [Nat.add_assoc]; exact h5, by rw [Nat.add_assoc]; exact h6⟩
theorem array4 {α : Type} {cs : Array α} (h : cs.size = 4) : ∃ c0 c1 c2 c3, cs = #[c0, c1, c2, c3] := by
  obtain ⟨l⟩ := cs
  match l, h with
  | [c0, c1, c2, c3], _ => exact ⟨c0, c1, c2, c3, rfl⟩
set_option maxRecDepth 100000 in
theorem ent_of {H : Type} {enc : TypeId × Value → H} {W : World} {r : Reach} {b0 : Nat} {v : Value} {d : DataW H} {p : List MemPlace} (hv : Value.okWide Tryz.prog W r b0 73 v) (h : DataW.Trod enc Tryz.prog W 0 (fun _ => true) true 73 v d p) : ∃ x : Ent, v = .agg #[.int .u8 x.u, .int .u8 x.r, .int .u8 x.y, .int .u8 x.n] ∧ x.Rg := by
  obtain ⟨cs, rfl, hsz⟩ := okWide_struct Tryz.underlying73 hv
  obtain ⟨c0, c1, c2, c3, rfl⟩ := array4 (hsz.trans (by kernel_rfl))
  obtain ⟨fuel, hf⟩ := h
  obtain ⟨x, hx, rfl, rfl, rfl, rfl⟩ := ent_cells hf
  exact ⟨x, rfl, hx⟩
end Go.Proofs.YtenggngcigkakaaGreatDoor
