/- The memory of the model between its calls: the heap, the map of the fields, the names that are there and those that are gone. -/
import Derived.Test.YtfnhkapbfgofkaaWn
import Derived.Laws.AppendOwn
import Derived.Laws.AppendOwnNone
import Derived.Maps.OwnSet
import Derived.Maps.AppendAt
import Derived.DeepKeys4
import Derived.Carry
namespace Go.Proofs.Ytfnhkapbfgofkaa
open Go.RowKit

/-! ### a map by names, of slices of references -/
def rkey (i g : Nat) : Value := .agg #[.int .i64 i, .int .u32 g]
def RgR (i g : Nat) : Prop := i ≤ 9223372036854775807 ∧ g ≤ 4294967295
theorem lawR : WideMaps.KeyLaw Try.prog 34 := deep_law_laid (by kernel_rfl) (m := 5) (by omega) (of_decide_eq_true (by kernel_rfl)) (by kernel_rfl) (by kernel_rfl)
theorem keyedR : Maps.Keyed Try.prog 34 := Maps.Keyed.of_law lawR
theorem zeroL (w : World) : (zeroValue 32).run Try.prog w = .ok (.slice none 0 0) w := by kernel_rfl
theorem lits_int {P : Program} {d : Nat} {t : TypeId} {q : IntKind} {n : Int} (ht : P.underlying t = some (.int q)) (hw : (Lit.int q n).wf = true) : P.keyLits (d + 1) t [.int q n] = some [.int q n] := by
  simp [Program.keyLits, ht, hw]
theorem keyR : Try.prog.keyType 34 = true := by kernel_rfl
theorem cellsR : Try.prog.cellsOf 34 = 2 := by kernel_rfl
theorem cellsI : Try.prog.cellsOf 3 = 1 := by kernel_rfl
theorem cellsU : Try.prog.cellsOf 22 = 1 := by kernel_rfl
theorem sizeT : ∃ d, Try.prog.types.size = d + 1 := ⟨Try.prog.types.size - 1, (Nat.sub_add_cancel (of_decide_eq_true (by kernel_rfl))).symm⟩
theorem rkey_lit {i g : Nat} (h : RgR i g) : ∃ l, keyOf Try.prog 34 (rkey i g) = some l := by
  obtain ⟨h1, h2⟩ := h
  have w2 : (Lit.int .i64 i).wf = true := WalkArith.wf_i64 (by omega)
  have w3 : (Lit.int .u32 g).wf = true := WalkArith.wf_u32 (by omega)
  obtain ⟨d, hd⟩ := sizeT
  have hl : Try.prog.keyLits (Try.prog.types.size + 1) 34 [.int .i64 i, .int .u32 g] = some [.int .i64 i, .int .u32 g] := by
    rw [hd]
    unfold Program.keyLits
    rw [Try.underlying34]
    simp [cellsR, cellsI, cellsU, lits_int Try.underlying3 w2, lits_int Try.underlying22 w3]
  refine ⟨.string (keyBytes [.int .i64 i, .int .u32 g]), ?_⟩
  unfold keyOf
  rw [Try.underlying34]
  simp only [keyR, rkey, Value.formed, Value.cells, Try.underlying34, cellsR]
  simp only [List.size_toArray, List.length_cons, List.length_nil, Nat.reduceAdd, beq_self_eq_true, Bool.and_self, if_true]
  rw [hl]
  rfl
theorem rkey_inj {i g i' g' : Nat} (h : rkey i g = rkey i' g') : i = i' ∧ g = g' := by
  unfold rkey at h
  have h1 := congrArg (fun v => match v with | Value.agg cs => cs | _ => #[]) h
  simp only at h1
  have e0 := congrArg (·[0]?) h1
  have e1 := congrArg (·[1]?) h1
  simp at e0 e1
  exact ⟨by omega, by omega⟩
/-- Where a name's fields lie: their block, and how many there are. -/
abbrev Pl := Nat × Nat → Option (Nat × Nat)
def codeF : Option (Nat × Nat) → Int
  | none => 0
  | some (x, l) => ((x * 8 + l + 1 : Nat) : Int)
def slF : Option (Nat × Nat) → Value
  | none => .slice none 0 0
  | some (x, l) => .slice (some ⟨x, 0, none⟩) l l
/-- How a slice reads. -/
def elemF (v : Value) : Option (DataW Unit × List MemPlace) :=
  match v with
  | .slice none 0 0 => some (.lit (.int .i64 0), [])
  | .slice (some ⟨x, 0, none⟩) l c => if l = c ∧ l < 8 then some (.lit (.int .i64 ((x * 8 + l + 1 : Nat) : Int)), []) else none
  | _ => none
theorem elemF_of {o : Option (Nat × Nat)} (h : ∀ x l, o = some (x, l) → l < 8) : elemF (slF o) = some (.lit (.int .i64 (codeF o)), []) := by
  match o, h with
  | none, _ => rfl
  | some (x, l), h =>
    show (if l = l ∧ l < 8 then _ else none) = _
    rw [if_pos ⟨rfl, h x l rfl⟩]; rfl
theorem lit_eq {c y : Int} (e : (DataW.lit (.int .i64 c) : DataW Unit) = .lit (.int .i64 y)) : c = y := by
  injection e with e
  injection e
theorem elemF_inv {o : Option (Nat × Nat)} (h : ∀ x l, o = some (x, l) → l < 8) {v : Value} {ps : List MemPlace} (hv : elemF v = some (.lit (.int .i64 (codeF o)), ps)) : v = slF o := by
  unfold elemF at hv
  split at hv
  · simp only [Option.some.injEq, Prod.mk.injEq] at hv
    have e := lit_eq hv.1
    match o, h, e with
    | none, _, _ => rfl
    | some (x, l), _, e => simp only [codeF] at e; omega
  · split at hv
    · rename_i x l c hl
      simp only [Option.some.injEq, Prod.mk.injEq] at hv
      have e := lit_eq hv.1
      obtain ⟨rfl, hl⟩ := hl
      match o, h, e with
      | none, _, e => simp only [codeF] at e; omega
      | some (x', l'), h, e =>
        have := h x' l' rfl
        simp only [codeF] at e
        obtain rfl : x = x' := by omega
        obtain rfl : l = l' := by omega
        rfl
    · cases hv
  · cases hv
def ReadF (D : DataW Unit) (P : Pl) : Prop := ∀ i g kl, RgR i g → keyOf Try.prog 34 (rkey i g) = some kl → D.atKey kl (.lit (.int .i64 0)) = .lit (.int .i64 (codeF (P (i, g)))) ∧ Maps.has D kl = (P (i, g)).isSome
/-- Block m is a map that gives P. -/
def MapF (w : World) (m e : Nat) (P : Pl) : Prop := (∃ D : DataW Unit, w.ownsMap Try.prog 34 elemF m e D ∧ ReadF D P) ∧ ∀ r x l, P r = some (x, l) → l < 8
def setP (P : Pl) (r : Nat × Nat) (x l : Nat) : Pl := fun y => if y = r then some (x, l) else P y
section
variable {w w' : World} {m e : Nat} {P : Pl}
theorem MapF.lt (h : MapF w m e P) : m < w.heap.size := by obtain ⟨⟨D, h, _⟩, _⟩ := h; exact h.lt
theorem MapF.same (h : MapF w m e P) (q : w'.heap[m]? = w.heap[m]?) : MapF w' m e P := by
  obtain ⟨⟨D, ⟨es, clock, hb, r⟩, h2⟩, h3⟩ := h
  exact ⟨⟨D, ⟨es, clock, q.trans hb, r⟩, h2⟩, h3⟩
theorem MapF.kept {S : Nat → Prop} (h : MapF w m e P) (q : Kept S w w') (hs : ¬ S m) : MapF w' m e P := h.same (q.block m h.lt hs)
theorem MapF.new (w : World) : MapF (w.alloc (.map #[] 0)) w.heap.size 0 (fun _ => none) := ⟨⟨.map [], World.ownsMap_made w _ _ _, fun _ _ _ _ _ => ⟨rfl, rfl⟩⟩, fun _ _ _ h => by cases h⟩
theorem MapF.no_cells (h : MapF w m e P) {t : TypeId} {cs : Array Value} (hb : Bk w m t cs) : False := by
  obtain ⟨⟨D, ⟨es, clock, hm, _⟩, _⟩, _⟩ := h
  unfold Bk at hb
  rw [hm] at hb
  cases hb
theorem MapF.look (h : MapF w m e P) {i g : Nat} (hr : RgR i g) : (Instr.lookup 66 (.map (some m)) (.agg #[.int .i64 i, .int .u32 g]) false).run Try.prog w = .ok (slF (P (i, g))) w := by
  obtain ⟨⟨D, h1, h3⟩, h4⟩ := h
  obtain ⟨kl, hkl⟩ := rkey_lit hr
  obtain ⟨v, ps, hrun, hv⟩ := h1.lookup keyedR Try.underlying66 (zeroL w) (zd := .lit (.int .i64 0)) (zp := []) rfl hkl
  rw [(h3 i g kl hr hkl).1] at hv
  rw [elemF_inv (h4 (i, g)) hv] at hrun
  exact hrun
theorem MapF.look_ok (h : MapF w m e P) {i g : Nat} (hr : RgR i g) : (Instr.lookup 66 (.map (some m)) (.agg #[.int .i64 i, .int .u32 g]) true).run Try.prog w = .ok (.tuple #[slF (P (i, g)), .bool (P (i, g)).isSome]) w := by
  obtain ⟨⟨D, h1, h3⟩, h4⟩ := h
  obtain ⟨kl, hkl⟩ := rkey_lit hr
  obtain ⟨v, ps, hrun, hv⟩ := h1.look_ok keyedR Try.underlying66 (zeroL w) (zd := .lit (.int .i64 0)) (zp := []) rfl hkl
  rw [(h3 i g kl hr hkl).1] at hv
  rw [elemF_inv (h4 (i, g)) hv, (h3 i g kl hr hkl).2] at hrun
  exact hrun
theorem MapF.store (h : MapF w m e P) {i g : Nat} (hr : RgR i g) (he : e < maxLen) (x l : Nat) (hl : l < 8) : ∃ w', (Instr.mapUpdate 66 (.map (some m)) (.agg #[.int .i64 i, .int .u32 g]) (.slice (some ⟨x, 0, none⟩) l l)).run Try.prog w = .ok () w' ∧ MapF w' m (e + 1) (setP P (i, g) x l) ∧ Kept (· = m) w w' := by
  obtain ⟨⟨D, h1, h3⟩, h4⟩ := h
  have ti := h1.tidy keyedR
  obtain ⟨kl, hkl⟩ := rkey_lit hr
  have kk : WideAt.IsKeyLit kl := keyedR.key hkl
  have hv : elemF (.slice (some ⟨x, 0, none⟩) l l) = some (.lit (.int .i64 (codeF (some (x, l)))), []) := elemF_of (o := some (x, l)) (fun _ _ e => by cases e; exact hl)
  obtain ⟨w', hrun, ho, hk⟩ := h1.update keyedR Try.underlying66 he hkl hv
  refine ⟨w', hrun, ⟨⟨_, ho, fun i' g' kl' hr' hkl' => ?_⟩, fun r x' l' hx => ?_⟩, ⟨hk.os, hk.tape, hk.output, hk.size, fun j hj hs => hk.block j hj fun e => hs (Option.some.inj e)⟩⟩
  · by_cases c : (i', g') = (i, g)
    · obtain ⟨rfl, rfl⟩ := Prod.mk.inj c
      rw [hkl] at hkl'
      obtain rfl := Option.some.inj hkl'
      have e2 : setP P (i', g') x l (i', g') = some (x, l) := if_pos rfl
      rw [e2, Maps.atKey_put_same ti.isMap kk, Maps.has_put_same ti.isMap kk]
      exact ⟨rfl, rfl⟩
    · have hne : kl' ≠ kl := by
        rintro rfl
        obtain ⟨a, b⟩ := rkey_inj (lawR.inj hkl' hkl)
        exact c (by rw [a, b])
      have e2 : setP P (i, g) x l (i', g') = P (i', g') := if_neg c
      rw [e2, Maps.atKey_put_other hne, Maps.has_put_other hne]
      exact h3 i' g' kl' hr' hkl'
  · unfold setP at hx
    split at hx
    · cases hx; exact hl
    · exact h4 r x' l' hx
end
end Go.Proofs.Ytfnhkapbfgofkaa
