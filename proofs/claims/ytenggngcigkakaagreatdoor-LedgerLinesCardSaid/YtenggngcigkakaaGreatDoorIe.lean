/- Attempts by numbers: what the helper attempts makes of a list of entries. -/
import Derived.Test.YtenggngcigkakaaGreatDoorHx
namespace Go.Proofs.YtenggngcigkakaaGreatDoor
open Go.RowKit

/-- An entry's four numbers. -/
structure Ent where
  u : Nat
  r : Nat
  y : Nat
  n : Nat
structure Ent.Rg (x : Ent) : Prop where
  u1 : x.u ≤ 255
  r1 : x.r ≤ 255
  y1 : x.y ≤ 255
  n1 : x.n ≤ 255
/-- The attempt at time t. -/
def entA (t : Nat) (x : Ent) : Att := ⟨(t : Int) + x.u, 1 + (x.r : Int) % 3, (x.r : Int) / 3 % 2, 1 + (x.r : Int) / 6 % 2, 1 + (x.y : Int) % 3, 1 + (x.n : Int) % 3⟩
theorem entA_ok (t : Nat) (x : Ent) (ht : t + x.u ≤ 1099511627776) : (entA t x).Ok := by
  constructor <;> (simp only [entA]; omega)
/-- The attempts from time t on. -/
def entL : Nat → List Ent → List Att
  | _, [] => []
  | t, x :: l => entA t x :: entL (t + x.u) l
/-- The time behind them. -/
def entT : Nat → List Ent → Nat
  | t, [] => t
  | t, x :: l => entT (t + x.u) l
theorem entL_length (l : List Ent) : ∀ t, (entL t l).length = l.length := by
  induction l with
  | nil => intro t; rfl
  | cons x l ih => intro t; simp [entL, ih]
theorem entL_append (l m : List Ent) : ∀ t, entL t (l ++ m) = entL t l ++ entL (entT t l) m := by
  induction l with
  | nil => intro t; rfl
  | cons x l ih => intro t; simp [entL, entT, ih]
theorem entT_append (l m : List Ent) : ∀ t, entT t (l ++ m) = entT (entT t l) m := by
  induction l with
  | nil => intro t; rfl
  | cons x l ih => intro t; simp [entT, ih]
theorem entL_snoc (l : List Ent) (j : Nat) (h : j < l.length) (t : Nat) : entL t (l.take (j + 1)) = entL t (l.take j) ++ [entA (entT t (l.take j)) l[j]] := by
  rw [List.take_succ_eq_append_getElem h, entL_append]; rfl
theorem entT_snoc (l : List Ent) (j : Nat) (h : j < l.length) (t : Nat) : entT t (l.take (j + 1)) = entT t (l.take j) + l[j].u := by
  rw [List.take_succ_eq_append_getElem h, entT_append]; rfl
theorem entT_le (l : List Ent) (h : ∀ x ∈ l, x.Rg) : ∀ t, t ≤ entT t l ∧ entT t l ≤ t + 255 * l.length := by
  induction l with
  | nil => intro t; simp [entT]
  | cons x l ih =>
    intro t
    have h1 := (h x (by simp)).u1
    have h2 := ih (fun y hy => h y (by simp [hy])) (t + x.u)
    simp only [entT, List.length_cons]
    omega
theorem entL_t (l : List Ent) : ∀ t, ∀ a ∈ entL t l, (t : Int) ≤ a.t := by
  induction l with
  | nil => intro t a ha; cases ha
  | cons x l ih =>
    intro t a ha
    rcases List.mem_cons.1 ha with rfl | ha
    · simp only [entA]; omega
    · have := ih _ a ha; omega
theorem entL_steady (l : List Ent) (h : ∀ x ∈ l, x.Rg) : ∀ t, t + 255 * l.length ≤ 1099511627776 → l.length ≤ 10000 → Steady (entL t l) := by
  induction l with
  | nil => intro t _ _; exact ⟨allOk_nil, List.Pairwise.nil, Nat.zero_le _⟩
  | cons x l ih =>
    intro t ht hl
    have h1 := (h x (by simp)).u1
    simp only [List.length_cons] at ht hl
    obtain ⟨k1, k2, k3⟩ := ih (fun y hy => h y (by simp [hy])) (t + x.u) (by omega) (by omega)
    refine ⟨fun a ha => ?_, ?_, by rw [entL_length, List.length_cons]; omega⟩
    · rcases List.mem_cons.1 ha with rfl | ha
      · exact entA_ok _ x (by omega)
      · exact k1 a ha
    · exact List.Pairwise.cons (fun b hb => by have := entL_t l _ b hb; simp only [entA]; omega) k2
end Go.Proofs.YtenggngcigkakaaGreatDoor
