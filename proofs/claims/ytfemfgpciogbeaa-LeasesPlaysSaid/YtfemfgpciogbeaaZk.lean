/- LeasesPlays: what the walk stands on; a script that is too long. -/
import Derived.Deep.CutRange
import Derived.Deep.RegionHeld3
import Derived.Test.YtfemfgpciogbeaaZj
import Derived.Test.YtfemfgpciogbeaaYy
namespace Go.Proofs.Ytfemfgpciogbeaa
open Go.RowKit

section
variable {w0 w w' : World} {pv qv u v : Value} {s t o : Option Dk} {F G : Nat → Prop} {X A : Nat} {cX cs : Array Value}
theorem Im.outer (h : Im w0 w pv qv s t F u v o G X cX) (hA : Bk w A 33 cs) (k : Kept (· = A) w w') (hl : w0.heap.size ≤ A) : Im w0 w' pv qv s t F u v o G X cX :=
  ⟨h.cur.kept k (fun z hz e => by subst e; exact h.cur.box hA (by decide) (by decide) (by decide) (by decide) (by decide) (by decide) (by decide) hz),
   h.old.kept k (fun z hz e => by subst e; exact h.old.box hA (by decide) (by decide) (by decide) (by decide) (by decide) (by decide) (by decide) hz),
   h.apart, h.bel.trans (k.below h.bel.size (by rintro z rfl; exact hl)), h.bX.kept k (fun e => by subst e; exact absurd (hA.uniq h.bX).1 (by decide))⟩
theorem three_kept {a b c : Value} : Kept (· = A) w (((w.setCell ⟨A, 0, none⟩ a).setCell ⟨A, 1, none⟩ b).setCell ⟨A, 2, none⟩ c) := (((Kept.refl (· = A) w).put1 0 a).put1 1 b).put1 2 c
theorem Im.cx {d : Nat} {kk ii gg x y : Int} (h : Im w0 w pv qv s t F u v o G X #[.int .u8 d, .int .i64 kk, .int .i64 ii, .int .u32 gg, .int .i64 x, .int .i64 y]) : w.cell? ⟨X, 0, none⟩ = some (.int .u8 d) ∧ w.cell? ⟨X, 1, none⟩ = some (.int .i64 kk) ∧ w.cell? ⟨X, 2, none⟩ = some (.int .i64 ii) ∧ w.cell? ⟨X, 3, none⟩ = some (.int .u32 gg) ∧ w.cell? ⟨X, 4, none⟩ = some (.int .i64 x) ∧ w.cell? ⟨X, 5, none⟩ = some (.int .i64 y) := ⟨h.bX.cell 0, h.bX.cell 1, h.bX.cell 2, h.bX.cell 3, h.bX.cell 4, h.bX.cell 5⟩
end
/-- At the loop's head. -/
structure Hd (w0 w : World) (pv qv : Value) (s : Option Dk) (F : Nat → Prop) (u v : Value) (o : Option Dk) (G : Nat → Prop) : Prop where
  cur : Pr w0 w pv qv s s F
  old : Pr w0 w u v o o G
  apart : ∀ z, F z → ¬ G z
  bel : Below w0.heap.size w0 w
section
variable {w0 w w' : World} {pv qv u v : Value} {s o : Option Dk} {F G : Nat → Prop} {X : Nat} {cX : Array Value}
theorem Im.hd (h : Im w0 w pv qv s s F u v o G X cX) : Hd w0 w pv qv s F u v o G := ⟨h.cur, h.old, h.apart, h.bel⟩
theorem Hd.im (h : Hd w0 w pv qv s F u v o G) (q : Below w.heap.size w w') (hX : Bk w' X 35 cX) : Im w0 w' pv qv s s F u v o G X cX := ⟨h.cur.below q, h.old.below q, h.apart, bel2 h.bel q, hX⟩
end
set_option maxHeartbeats 2000000 in
set_option maxRecDepth 100000 in
theorem plays_works (n g : Int) (a : Option Addr) (len cap : Nat) (w : World) (hl : 60 < len) :
    Calls Try.prog 3 #[.int .i64 n, .int .u32 g, .slice a len cap] w fun e w' => e = .returned (.bool true) ∧ Below w.heap.size w w' := by
  have h : (60 : Int) < len := by omega
  clear hl
  go_enter Try.func3, Try.ntmps3
  go_wp2_with (go_at_call 10; refine (works_ok _).mono ?_; rintro e w' ⟨rfl, hb⟩; have HB := Lib.hid hb; clear hb)
  go_ret
  exact ⟨rfl, HB.out⟩
end Go.Proofs.Ytfemfgpciogbeaa
