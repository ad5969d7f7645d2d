/- Calls of either side at a world that has only drawn since; the box of a step stays. -/
import Derived.Test.YthcpmcdgojgdlaaCu
namespace Go.Proofs.Ythcpmcdgojgdlaa
open Go.RowKit

theorem Below.drew0 {w W : World} (e2 : W.os = w.os) (e3 : W.tape = w.tape) (e4 : W.output = w.output) (e1 : W.heap = w.heap) (B : Nat) : Below B w W := ⟨e2, e3, e4, by rw [e1]; exact Nat.le_refl _, fun k _ => by rw [e1]⟩
/-- The pair and the box of a step. -/
structure Mx (w0 w : World) (p r : Option Addr) (b c d : Nat) (o1 o2 : Option Pt) (q s : Option Addr) (X : Nat) (D I : Int) : Prop where
  m : Im w0 w p r b c d o1 o2 q s
  x : Bk w X 32 #[.int .u8 D, .int .i64 I]
section
variable {w0 w w' W : World} {p r q s : Option Addr} {b c d X : Nat} {o1 o2 o : Option Pt} {D I : Int}
theorem Mx.quiet (h : Mx w0 w p r b c d o1 o2 q s X D I) (k : Below w.heap.size w w') : Mx w0 w' p r b c d o1 o2 q s X D I := ⟨h.m.quiet k, h.x.below k⟩
theorem Mx.c1 (h : Mx w0 w p r b c d o1 o2 q s X D I) : w.cell? ⟨X, 1, none⟩ = some (.int .i64 I) := h.x.cell 1
theorem im_shade_m (h : Hid (Mx w0 w p r b c d o1 o2 q s X D I)) (e1 : W.heap = w.heap) (e2 : W.os = w.os) (e3 : W.tape = w.tape) (e4 : W.output = w.output) :
    Calls Try.prog 12 #[.pointer p, .int .i64 I] W fun e w' => e = .returned (.tuple #[.bool (oShB o1 I), .int .i64 (oChk o1 I)]) ∧ Hid (Mx w0 w' p r b c d (oTurn o1 I 0 1) o2 q s X D I) ∧ w'.cell? ⟨X, 1, none⟩ = some (.int .i64 I) := by
  have h2 := h.out.quiet (Below.drew0 e2 e3 e4 e1 _)
  exact (im_shade I h2.m).mono fun _ _ ⟨k1, k2, k3⟩ => ⟨k1, ⟨k2, k3 _ _ h2.x⟩, (k3 _ _ h2.x).cell 1⟩
theorem im_black_m (h : Hid (Mx w0 w p r b c d o1 o2 q s X D I)) (e1 : W.heap = w.heap) (e2 : W.os = w.os) (e3 : W.tape = w.tape) (e4 : W.output = w.output) :
    Calls Try.prog 14 #[.pointer p, .int .i64 I] W fun e w' => e = .returned (.int .i64 (oTE o1 I 1)) ∧ Hid (Mx w0 w' p r b c d (oTurn o1 I 1 2) o2 q s X D I) ∧ w'.cell? ⟨X, 1, none⟩ = some (.int .i64 I) := by
  have h2 := h.out.quiet (Below.drew0 e2 e3 e4 e1 _)
  exact (im_black I h2.m).mono fun _ _ ⟨k1, k2, k3⟩ => ⟨k1, ⟨k2, k3 _ _ h2.x⟩, (k3 _ _ h2.x).cell 1⟩
theorem im_born_m (h : Hid (Mx w0 w p r b c d o1 o2 q s X D I)) (e1 : W.heap = w.heap) (e2 : W.os = w.os) (e3 : W.tape = w.tape) (e4 : W.output = w.output) :
    Calls Try.prog 16 #[.pointer p, .int .i64 I] W fun e w' => e = .returned (.int .i64 (oTE o1 I 0)) ∧ Hid (Mx w0 w' p r b c d (oTurn o1 I 0 2) o2 q s X D I) ∧ w'.cell? ⟨X, 1, none⟩ = some (.int .i64 I) := by
  have h2 := h.out.quiet (Below.drew0 e2 e3 e4 e1 _)
  exact (im_born I h2.m).mono fun _ _ ⟨k1, k2, k3⟩ => ⟨k1, ⟨k2, k3 _ _ h2.x⟩, (k3 _ _ h2.x).cell 1⟩
theorem im_bleach_m (h : Hid (Mx w0 w p r b c d o1 o2 q s X D I)) (e1 : W.heap = w.heap) (e2 : W.os = w.os) (e3 : W.tape = w.tape) (e4 : W.output = w.output) :
    Calls Try.prog 18 #[.pointer p, .int .i64 I] W fun e w' => e = .returned (.int .i64 (oChk o1 I)) ∧ Hid (Mx w0 w' p r b c d (oBl o1 I) o2 q s X D I) ∧ w'.cell? ⟨X, 1, none⟩ = some (.int .i64 I) := by
  have h2 := h.out.quiet (Below.drew0 e2 e3 e4 e1 _)
  exact (im_bleach I h2.m).mono fun _ _ ⟨k1, k2, k3⟩ => ⟨k1, ⟨k2, k3 _ _ h2.x⟩, (k3 _ _ h2.x).cell 1⟩
theorem ir_shade_m (h : Hid (Mx w0 w p r b c d o1 o2 q s X D I)) (e1 : W.heap = w.heap) (e2 : W.os = w.os) (e3 : W.tape = w.tape) (e4 : W.output = w.output) :
    Calls Try.prog 13 #[.pointer r, .int .i64 I] W fun e w' => e = .returned (.tuple #[.bool (oShB o2 I), .int .i64 (oChk o2 I)]) ∧ Hid (Mx w0 w' p r b c d o1 (oTurn o2 I 0 1) q s X D I) ∧ w'.cell? ⟨X, 1, none⟩ = some (.int .i64 I) := by
  have h2 := h.out.quiet (Below.drew0 e2 e3 e4 e1 _)
  exact (ir_shade I h2.m).mono fun _ _ ⟨k1, k2, k3⟩ => ⟨k1, ⟨k2, k3 _ _ h2.x⟩, (k3 _ _ h2.x).cell 1⟩
theorem ir_black_m (h : Hid (Mx w0 w p r b c d o1 o2 q s X D I)) (e1 : W.heap = w.heap) (e2 : W.os = w.os) (e3 : W.tape = w.tape) (e4 : W.output = w.output) :
    Calls Try.prog 15 #[.pointer r, .int .i64 I] W fun e w' => e = .returned (.int .i64 (oTE o2 I 1)) ∧ Hid (Mx w0 w' p r b c d o1 (oTurn o2 I 1 2) q s X D I) ∧ w'.cell? ⟨X, 1, none⟩ = some (.int .i64 I) := by
  have h2 := h.out.quiet (Below.drew0 e2 e3 e4 e1 _)
  exact (ir_black I h2.m).mono fun _ _ ⟨k1, k2, k3⟩ => ⟨k1, ⟨k2, k3 _ _ h2.x⟩, (k3 _ _ h2.x).cell 1⟩
theorem ir_born_m (h : Hid (Mx w0 w p r b c d o1 o2 q s X D I)) (e1 : W.heap = w.heap) (e2 : W.os = w.os) (e3 : W.tape = w.tape) (e4 : W.output = w.output) :
    Calls Try.prog 17 #[.pointer r, .int .i64 I] W fun e w' => e = .returned (.int .i64 (oTE o2 I 0)) ∧ Hid (Mx w0 w' p r b c d o1 (oTurn o2 I 0 2) q s X D I) ∧ w'.cell? ⟨X, 1, none⟩ = some (.int .i64 I) := by
  have h2 := h.out.quiet (Below.drew0 e2 e3 e4 e1 _)
  exact (ir_born I h2.m).mono fun _ _ ⟨k1, k2, k3⟩ => ⟨k1, ⟨k2, k3 _ _ h2.x⟩, (k3 _ _ h2.x).cell 1⟩
theorem ir_bleach_m (h : Hid (Mx w0 w p r b c d o1 o2 q s X D I)) (e1 : W.heap = w.heap) (e2 : W.os = w.os) (e3 : W.tape = w.tape) (e4 : W.output = w.output) :
    Calls Try.prog 19 #[.pointer r, .int .i64 I] W fun e w' => e = .returned (.int .i64 (oChk o2 I)) ∧ Hid (Mx w0 w' p r b c d o1 (oBl o2 I) q s X D I) ∧ w'.cell? ⟨X, 1, none⟩ = some (.int .i64 I) := by
  have h2 := h.out.quiet (Below.drew0 e2 e3 e4 e1 _)
  exact (ir_bleach I h2.m).mono fun _ _ ⟨k1, k2, k3⟩ => ⟨k1, ⟨k2, k3 _ _ h2.x⟩, (k3 _ _ h2.x).cell 1⟩
end
end Go.Proofs.Ythcpmcdgojgdlaa
