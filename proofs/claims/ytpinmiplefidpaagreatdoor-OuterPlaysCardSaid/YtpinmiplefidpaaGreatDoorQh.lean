/- Outers, Attempts; both worlds at once, or none: what is kept. -/
import Derived.Test.YtpinmiplefidpaaGreatDoorQg
import Derived.Test.YtpinmiplefidpaaGreatDoorOy
namespace Go.Proofs.YtpinmiplefidpaaGreatDoor
open Go.RowKit

set_option maxHeartbeats 1000000 in
theorem routers_ok (p q : Option Addr) (n c d : Nat) (l : List Ro) (w : World) (h1 : RdO w (.slice p n c) l) (h2 : RdO w (.slice q n d) l) :
    Calls Tryz.prog 34 #[.slice p n c, .slice q n d] w fun e w' => e = .returned (.bool true) ∧ Below w.heap.size w w' := by
  have R1 := Lib.hid h1
  have R2 := Lib.hid h2
  obtain ⟨e1, e2, e3, _⟩ := h1.cap
  obtain ⟨_, e4, e5, _⟩ := h2.cap
  subst e1
  clear h1 h2
  obtain ⟨N, hN⟩ : ∃ N, l.length = N := ⟨_, rfl⟩
  rw [hN] at R1 R2 e2 e4 ⊢
  have HN := Lib.hid hN
  clear hN
  go_enter Tryz.func34, Tryz.ntmps34
  go_wp2
  go_loopw [5] (fun v wr => ∃ j : Nat, j ≤ N ∧ v = .int .i64 j ∧ Hid (Below w.heap.size w wr)) (fun v _ => N - (intOf v).toNat)
  case atStart => exact ⟨0, Nat.zero_le _, rfl, Below.refl _ _⟩
  case round =>
    obtain ⟨j, hj, rfl, HB⟩ := hrel
    by_cases hlt : j < N
    · have hjl : j < l.length := by rw [HN.out]; exact hlt
      obtain ⟨g1, o1, rfl, hg1, t0, t1, t2⟩ := (R1.out.below HB.out).cell hjl
      obtain ⟨g2, o2, rfl, hg2, u0, u1, u2⟩ := (R2.out.below HB.out).cell hjl
      generalize l[j] = x at *
      obtain ⟨k, i, g⟩ := x
      dsimp only at t0 t1 t2 u0 u1 u2
      clear hjl
      go_wp2_with fail
      go_quiet (fail)
      go_wp2
      go_roundw
      case rel => exact ⟨j + 1, by omega, by go_num, bel_drewN HB.out _⟩
      case measure => simp [intOf]; omega
    · obtain rfl : j = N := by omega
      go_wp2
      go_ret
      exact ⟨rfl, HB.out⟩
set_option maxHeartbeats 1000000 in
theorem rattempts_ok (p q : Option Addr) (n c d : Nat) (l : List LG.Att) (w : World) (h1 : LG.RdA w (.slice p n c) l) (h2 : LG.RdA w (.slice q n d) l) :
    Calls Tryz.prog 39 #[.slice p n c, .slice q n d] w fun e w' => e = .returned (.bool true) ∧ Below w.heap.size w w' := by
  have R1 := Lib.hid h1
  have R2 := Lib.hid h2
  obtain ⟨e1, e2, e3, _⟩ := h1.cap
  obtain ⟨_, e4, e5, _⟩ := h2.cap
  subst e1
  clear h1 h2
  obtain ⟨N, hN⟩ : ∃ N, l.length = N := ⟨_, rfl⟩
  rw [hN] at R1 R2 e2 e4 ⊢
  have HN := Lib.hid hN
  clear hN
  go_enter Tryz.func39, Tryz.ntmps39
  go_wp2
  go_loopw [5] (fun v wr => ∃ j : Nat, j ≤ N ∧ v = .int .i64 j ∧ Hid (Below w.heap.size w wr)) (fun v _ => N - (intOf v).toNat)
  case atStart => exact ⟨0, Nat.zero_le _, rfl, Below.refl _ _⟩
  case round =>
    obtain ⟨j, hj, rfl, HB⟩ := hrel
    by_cases hlt : j < N
    · have hjl : j < l.length := by rw [HN.out]; exact hlt
      obtain ⟨g1, o1, rfl, hg1, t0, t1, t2, t3, t4, t5⟩ := (R1.out.below HB.out).cell hjl
      obtain ⟨g2, o2, rfl, hg2, u0, u1, u2, u3, u4, u5⟩ := (R2.out.below HB.out).cell hjl
      generalize l[j] = x at *
      obtain ⟨t, k, i, g, y, z⟩ := x
      dsimp only at t0 t1 t2 t3 t4 t5 u0 u1 u2 u3 u4 u5
      clear hjl
      go_wp2_with fail
      go_quiet (fail)
      go_wp2
      go_roundw
      case rel => exact ⟨j + 1, by omega, by go_num, bel_drewN HB.out _⟩
      case measure => simp [intOf]; omega
    · obtain rfl : j = N := by omega
      go_wp2
      go_ret
      exact ⟨rfl, HB.out⟩

/-! ### both worlds -/
/-- Boxes of resources and of steps stay. -/
def BKeep (w w' : World) : Prop := ∀ D ty cD, (ty = 25 ∨ ty = 36) → Bk w D ty cD → Bk w' D ty cD
theorem BKeep.below {w w' : World} (h : Below w.heap.size w w') : BKeep w w' := fun _ _ _ _ hD => hD.below h
theorem BKeep.refl (w : World) : BKeep w w := fun _ _ _ _ hD => hD
/-- The program's world and the document's, or none. -/
structure PM (w0 w : World) (pv qv : Value) (s t : Option Wd) : Prop where
  cur : (s = none ∧ t = none ∧ pv = .pointer none ∧ qv = .pointer none) ∨ ∃ A x W U, s = some W ∧ t = some U ∧ pv = ptr A.b ∧ qv = ptr x.r ∧ WW w A W ∧ RW w x U ∧ (∀ g, WFoot w A g → w0.heap.size ≤ g) ∧ (∀ g, RFoot w x g → w0.heap.size ≤ g) ∧ ∀ g, RFoot w x g → ¬ WFoot w A g
  bel : Below w0.heap.size w0 w
section
variable {w0 w w' : World} {pv qv : Value} {s t : Option Wd} {W U : Wd}
theorem PM.quiet (h : PM w0 w pv qv s t) (k : Below w.heap.size w w') : PM w0 w' pv qv s t := by
  refine ⟨?_, bel2 h.bel k⟩
  rcases h.cur with h | ⟨A, x, W, U, e1, e2, e3, e4, f, g, l1, l2, l3⟩
  · exact .inl h
  · obtain ⟨f1, f2⟩ := f.below k
    obtain ⟨g1, g2⟩ := g.below k
    exact .inr ⟨A, x, W, U, e1, e2, e3, e4, f1, g1, fun z hz => l1 z ((f2 z).1 hz), fun z hz => l2 z ((g2 z).1 hz), fun z hz hf => l3 z ((g2 z).1 hz) ((f2 z).1 hf)⟩
theorem PM.nilp (h : PM w0 w pv qv none t) : pv = .pointer none := by
  rcases h.cur with ⟨_, _, h, _⟩ | ⟨_, _, _, _, e, _⟩
  · exact h
  · cases e
theorem PM.nilq (h : PM w0 w pv qv s none) : qv = .pointer none := by
  rcases h.cur with ⟨_, _, _, h⟩ | ⟨_, _, _, _, _, e, _⟩
  · exact h
  · cases e
theorem PM.prog (h : PM w0 w pv qv (some W) t) : ∃ A, pv = ptr A.b ∧ WW w A W ∧ (∀ w' V, WW w' A V → WStep A w w' → PM w0 w' pv qv (some V) t) ∧ ∀ w', WStep A w w' → BKeep w w' := by
  rcases h.cur with ⟨e, _⟩ | ⟨A, x, W', U, e1, e2, e3, e4, f, g, l1, l2, l3⟩
  · cases e
  · injection e1 with e1
    subst e1
    refine ⟨A, e3, f, fun w' V f' q => ?_, fun w' q D ty cD ht hD => hD.kept q.k (by rcases ht with rfl | rfl; exact f.off hD; exact f.off hD)⟩
    obtain ⟨g1, g2⟩ := g.kept q.k fun z hz hf => l3 z hz hf
    refine ⟨.inr ⟨A, x, V, U, rfl, e2, e3, e4, f', g1, fun z hz => ?_, fun z hz => l2 z ((g2 z).1 hz), fun z hz hf => ?_⟩, h.bel.trans (q.k.below h.bel.size l1)⟩
    · rcases q.g z hz with a | a
      · exact l1 z a
      · exact Nat.le_trans h.bel.size a
    · have hz' := (g2 z).1 hz
      rcases q.g z hf with a | a
      · exact l3 z hz' a
      · have := g.foot_lt hz'; omega
theorem PM.doc (h : PM w0 w pv qv s (some U)) : ∃ x, qv = ptr x.r ∧ RW w x U ∧ (∀ w' y V, RW w' y V → RStep x y w w' → PM w0 w' pv qv s (some V)) ∧ ∀ w' y, RStep x y w w' → BKeep w w' := by
  rcases h.cur with ⟨_, e, _⟩ | ⟨A, x, W, U', e1, e2, e3, e4, f, g, l1, l2, l3⟩
  · cases e
  · injection e2 with e2
    subst e2
    refine ⟨x, e4, g, fun w' y V g' q => ?_, fun w' y q D ty cD ht hD => hD.kept q.k (by rcases ht with rfl | rfl; exact g.off hD; exact g.off hD)⟩
    obtain ⟨f1, f2⟩ := f.kept q.k fun z hz hf => l3 z hf hz
    refine ⟨.inr ⟨A, y, W, V, e1, rfl, e3, by rw [e4, q.r], f1, g', fun z hz => l1 z ((f2 z).1 hz), fun z hz => ?_, fun z hz hf => ?_⟩, h.bel.trans (q.k.below h.bel.size l2)⟩
    · rcases q.g z hz with a | a
      · exact l2 z a
      · exact Nat.le_trans h.bel.size a
    · have hf' := (f2 z).1 hf
      rcases q.g z hz with a | a
      · exact l3 z a hf'
      · have := f.foot_lt hf'; omega
end
end Go.Proofs.YtpinmiplefidpaaGreatDoor
