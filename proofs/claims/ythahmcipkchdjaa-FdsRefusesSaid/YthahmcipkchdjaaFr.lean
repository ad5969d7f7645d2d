/- The table of FdsRefuses, what is said of each resource that it refuses, and the cells that hold these. -/
import Derived.Test.YthahmcipkchdjaaFz
namespace Go.Proofs.Ythahmcipkchdjaa
open Go.RowKit

/-- A table of n ids, the first of which alone is open. -/
def Rone (n f : Nat) : Fb := (ffresh n f).opened 0 65535
theorem Rone.not {n f : Nat} {k i g : Int} (h : ¬ IsFile k i g) : (Rone n f).chk k i g = 2 ∧ (Rone n f).number k i g = 0 := by
  have h1 : (Rone n f).chk k i g = 2 := by unfold Fb.chk; rw [if_neg h]
  refine ⟨h1, ?_⟩
  unfold Fb.number
  rw [Fb.look_none (by rw [h1]; omega)]; rfl
theorem Rone.other {n f : Nat} {i g : Int} (h : IsFile 1 i g) (E : Int) (hE : (Rone n f).t.chk i g = E) (h0 : E ≠ 0) : (Rone n f).chk 1 i g = E ∧ (Rone n f).number 1 i g = 0 := by
  have h1 : (Rone n f).chk 1 i g = E := by unfold Fb.chk; rw [if_pos h]; exact hE
  refine ⟨h1, ?_⟩
  unfold Fb.number
  rw [Fb.look_none (by rw [h1]; exact h0)]; rfl
theorem Rone.out {n f : Nat} {i g : Int} (h : (n : Int) ≤ i) : (Rone n f).t.chk i g = 3 := by
  unfold Tb.chk
  rw [if_pos (.inr h)]
theorem Rone.stale {n f : Nat} {g : Int} (hn : 1 ≤ n) (h : g ≠ f) : (Rone n f).t.chk 0 g = 7 := by
  unfold Tb.chk
  have e1 : ¬ ((0 : Int) < 0 ∨ ((Rone n f).t.n : Int) ≤ 0) := by
    have : (Rone n f).t.n = n := rfl
    omega
  rw [if_neg e1, if_neg]
  rintro ⟨_, h2⟩
  have : (Rone n f).t.g (Int.toNat 0) = f := if_pos (show 0 < n by omega)
  rw [this] at h2
  exact h h2.symm
theorem Rone.free {n f : Nat} {g : Int} (hn : 1 < n) : (Rone n f).t.chk 1 g = 7 := by
  unfold Tb.chk
  have e1 : ¬ ((1 : Int) < 0 ∨ ((Rone n f).t.n : Int) ≤ 1) := by
    have : (Rone n f).t.n = n := rfl
    omega
  rw [if_neg e1, if_neg]
  rintro ⟨h1, _⟩
  have : (Rone n f).t.s (Int.toNat 1) = 0 := rfl
  omega
theorem Rone.held {n f : Nat} (hn : 1 ≤ n) : (Rone n f).t.held = [0] := by
  show sel (put (fun _ => 0) 0 1) 1 n = [0]
  induction n with
  | zero => omega
  | succ n ih =>
    rw [sel_snoc]
    by_cases h : n = 0
    · subst h; rfl
    · rw [ih (by omega), put_other h, if_neg (by omega)]; rfl
theorem Rone.all {n f : Nat} (hn : 1 ≤ n) : (Rone n f).all = [⟨1, 0, (f : Int)⟩] := by
  unfold Fb.all Tb.now Tb.refs
  rw [Rone.held hn]
  have : (Rone n f).t.g 0 = f := if_pos (show 0 < n by omega)
  simp [fro, this]
/-- The seven resources that are refused, each with what is said of it. -/
def refs7 (n f m y : Int) : List (Ro × Int) := [(⟨0, 0, 0⟩, 2), (⟨2, 0, f⟩, 2), (⟨3, 0, f⟩, 2), (⟨1, 64 + m, f⟩, 2), (⟨1, -1 - m, f⟩, 2), (⟨1, n, 0⟩, 2), (⟨1, 0, y⟩, 7)]
theorem refs7_ok {n f m y : Nat} (hn : 1 ≤ n ∧ n ≤ 64) (hf : 1 ≤ f ∧ f ≤ 4294966295) (hm : m ≤ 65535) (hy : f < y ∧ y ≤ 4294967295) : ∀ x ∈ refs7 n f m y, x.1.Rg ∧ (Rone n f).chk x.1.k x.1.i x.1.g = x.2 ∧ (Rone n f).number x.1.k x.1.i x.1.g = 0 ∧ x.2 ≠ 0 := by
  intro x hx
  simp only [refs7, List.mem_cons, List.not_mem_nil, or_false] at hx
  rcases hx with rfl | rfl | rfl | rfl | rfl | rfl | rfl
  · exact ⟨⟨by simp, by simp, by simp, by simp, by simp, by simp⟩, (Rone.not (by unfold IsFile; simp)).1, (Rone.not (by unfold IsFile; simp)).2, by simp⟩
  · exact ⟨⟨by simp, by simp, by simp, by simp, by simp, by simp only []; omega⟩, (Rone.not (by unfold IsFile; simp)).1, (Rone.not (by unfold IsFile; simp)).2, by simp⟩
  · exact ⟨⟨by simp, by simp, by simp, by simp, by simp, by simp only []; omega⟩, (Rone.not (by unfold IsFile; simp)).1, (Rone.not (by unfold IsFile; simp)).2, by simp⟩
  · exact ⟨⟨by simp, by simp, by simp only []; omega, by simp only []; omega, by simp, by simp only []; omega⟩, (Rone.not (by unfold IsFile; simp only []; omega)).1, (Rone.not (by unfold IsFile; simp only []; omega)).2, by simp⟩
  · exact ⟨⟨by simp, by simp, by simp only []; omega, by simp only []; omega, by simp, by simp only []; omega⟩, (Rone.not (by unfold IsFile; simp only []; omega)).1, (Rone.not (by unfold IsFile; simp only []; omega)).2, by simp⟩
  · exact ⟨⟨by simp, by simp, by simp only []; omega, by simp only []; omega, by simp, by simp⟩, (Rone.not (by unfold IsFile; simp)).1, (Rone.not (by unfold IsFile; simp)).2, by simp⟩
  · have h1 : IsFile 1 0 (y : Int) := ⟨rfl, by omega, by omega, by omega⟩
    have h2 := Rone.other (n := n) (f := f) h1 7 (Rone.stale hn.1 (by omega)) (by omega)
    exact ⟨⟨by simp, by simp, by simp, by simp, by simp only []; omega, by simp only []; omega⟩, h2.1, h2.2, by simp⟩
/-- Their cells. -/
def cl7 (l : List (Ro × Int)) : List Value := l.flatMap fun x => x.1.cl ++ [Value.int .i64 x.2]
theorem cl7_at {w : World} {T : Nat} {t : TypeId} {l : List (Ro × Int)} (h : Bk w T t (cl7 l).toArray) {j : Nat} (hj : j < l.length) :
    w.cell? ⟨T, j * 4, none⟩ = some (.int .i64 l[j].1.k) ∧ w.cell? ⟨T, j * 4 + 1, none⟩ = some (.int .i64 l[j].1.i) ∧ w.cell? ⟨T, j * 4 + 2, none⟩ = some (.int .u32 l[j].1.g) ∧ w.cell? ⟨T, j * 4 + 3, none⟩ = some (.int .i64 l[j].2) := by
  have key : ∀ (l : List (Ro × Int)) (j : Nat) (hj : j < l.length) (q : Nat), q < 4 → (cl7 l)[j * 4 + q]? = (l[j].1.cl ++ [Value.int .i64 l[j].2])[q]? := by
    intro l
    induction l with
    | nil => intro j hj; simp at hj
    | cons a l ih =>
      intro j hj q hq
      have e : cl7 (a :: l) = (a.1.cl ++ [Value.int .i64 a.2]) ++ cl7 l := by simp [cl7]
      have e4 : (a.1.cl ++ [Value.int .i64 a.2]).length = 4 := rfl
      rw [e]
      cases j with
      | zero => rw [Nat.zero_mul, Nat.zero_add, List.getElem?_append_left (by rw [e4]; exact hq)]; rfl
      | succ j =>
        rw [List.getElem?_append_right (by rw [e4]; omega), e4, show (j + 1) * 4 + q - 4 = j * 4 + q by omega, ih j (by simpa using hj) q hq]
        rfl
  have k := fun q hq => key l j hj q hq
  refine ⟨?_, ?_, ?_, ?_⟩ <;> rw [h.cell, List.getElem?_toArray]
  · exact k 0 (by omega)
  · exact k 1 (by omega)
  · exact k 2 (by omega)
  · exact k 3 (by omega)
theorem bk_new_drew (w : World) (t : TypeId) (cs : Array Value) : Bk (w.alloc (.cells cs t)).drew w.heap.size t cs := Bk.new w t cs
theorem cells4 {w : World} {A : Nat} {t : TypeId} {x y z u : Value} (h : Bk w A t #[x, y, z, u]) : w.cell? ⟨A, 0, none⟩ = some x ∧ w.cell? ⟨A, 1, none⟩ = some y ∧ w.cell? ⟨A, 2, none⟩ = some z ∧ w.cell? ⟨A, 3, none⟩ = some u := ⟨h.cell 0, h.cell 1, h.cell 2, h.cell 3⟩
end Go.Proofs.Ythahmcipkchdjaa
