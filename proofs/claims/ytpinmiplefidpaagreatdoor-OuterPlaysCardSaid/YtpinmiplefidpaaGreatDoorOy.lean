/- Worlds side by side; the helper made: a world behind a script. -/
import Derived.Test.YtpinmiplefidpaaGreatDoorOx
namespace Go.Proofs.YtpinmiplefidpaaGreatDoor
open Go.RowKit

/-! ### worlds side by side -/
/-- No block is of both. -/
def Apart (w : World) (A B : Ad) : Prop := ∀ g, WFoot w A g → ¬ WFoot w B g
section
variable {w0 w w' : World} {A B : Ad} {W U V : Wd}
theorem Apart.symm (h : Apart w A B) : Apart w B A := fun g hb ha => h g ha hb
theorem Apart.below (h : Apart w A B) (f : WW w A W) (k : WW w B U) (q : Below w.heap.size w w') : Apart w' A B := fun g ha hb => h g (((f.below q).2 g).1 ha) (((k.below q).2 g).1 hb)
/-- A call on B leaves A as it is. -/
theorem WW.other (f : WW w A W) (h : Apart w A B) (q : WStep B w w') : WW w' A W ∧ ∀ g, WFoot w' A g ↔ WFoot w A g := f.kept q.k fun g hg => h g hg
theorem WSt.other (f : WSt w0 w A W) (h : Apart w A B) (k : WSt w0 w B U) (q : WStep B w w') : WSt w0 w' A W := by
  obtain ⟨h1, h2⟩ := f.f.other h q
  exact ⟨h1, f.bel.trans (q.k.below f.bel.size k.lo), fun g hg => f.lo g ((h2 g).1 hg)⟩
theorem Apart.step (h : Apart w A B) (f : WW w A W) (q : WStep B w w') : Apart w' A B := fun g ha hb => by
  have h1 := ((f.other h q).2 g).1 ha
  rcases q.g g hb with x | x
  · exact h g h1 x
  · have := f.foot_lt h1; omega
/-- A world that a call has made is apart from those that were there. -/
theorem Apart.fresh (f : WSt w0 w A W) (k : WSt w w' B U) : Apart w' A B := fun g ha hb => by
  have h1 := ((f.f.below k.bel).2 g).1 ha
  have := f.f.foot_lt h1
  have := k.lo g hb
  omega
theorem WSt.since (f : WSt w0 w A W) (k : WSt w w' B U) : WSt w0 w' B U := ⟨k.f, bel2 f.bel k.bel, fun g hg => Nat.le_trans f.bel.size (k.lo g hg)⟩
theorem WSt.after (h : Below w0.heap.size w0 w) (k : WSt w w' B U) : WSt w0 w' B U := ⟨k.f, bel2 h k.bel, fun g hg => Nat.le_trans h.size (k.lo g hg)⟩
/-- Two worlds. -/
structure W2 (w0 w : World) (A B : Ad) (W U : Wd) : Prop where
  a : WSt w0 w A W
  b : WSt w0 w B U
  x : Apart w A B
theorem W2.quiet (h : W2 w0 w A B W U) (q : Below w.heap.size w w') : W2 w0 w' A B W U := ⟨h.a.quiet q, h.b.quiet q, h.x.below h.a.f h.b.f q⟩
theorem W2.symm (h : W2 w0 w A B W U) : W2 w0 w B A U W := ⟨h.b, h.a, h.x.symm⟩
theorem W2.stepB (h : W2 w0 w A B W U) (f : WSt w0 w' B V) (q : WStep B w w') : W2 w0 w' A B W V := ⟨h.a.other h.x h.b q, f, h.x.step h.a.f q⟩
theorem W2.stepA (h : W2 w0 w A B W U) (f : WSt w0 w' A V) (q : WStep A w w') : W2 w0 w' A B V U := (h.symm.stepB f q).symm
end

/-- Three worlds. -/
structure W3 (w0 w : World) (A B C : Ad) (W U V : Wd) : Prop where
  ab : W2 w0 w A B W U
  ac : W2 w0 w A C W V
  bc : W2 w0 w B C U V
section
variable {w0 w w' : World} {A B C : Ad} {W U V X : Wd}
theorem W3.quiet (h : W3 w0 w A B C W U V) (q : Below w.heap.size w w') : W3 w0 w' A B C W U V := ⟨h.ab.quiet q, h.ac.quiet q, h.bc.quiet q⟩
theorem W3.swap (h : W3 w0 w A B C W U V) : W3 w0 w A C B W V U := ⟨h.ac, h.ab, h.bc.symm⟩
theorem W3.stepB (h : W3 w0 w A B C W U V) (f : WSt w0 w' B X) (q : WStep B w w') : W3 w0 w' A B C W X V :=
  ⟨h.ab.stepB f q, ⟨h.ac.a.other h.ab.x h.ab.b q, h.ac.b.other h.bc.x.symm h.ab.b q, fun g ha hc => h.ac.x g (((h.ac.a.f.other h.ab.x q).2 g).1 ha) (((h.ac.b.f.other h.bc.x.symm q).2 g).1 hc)⟩, h.bc.stepA f q⟩
theorem W3.stepC (h : W3 w0 w A B C W U V) (f : WSt w0 w' C X) (q : WStep C w w') : W3 w0 w' A B C W U X := (h.swap.stepB f q).swap
end

/-! ### told forms: do, copy -/
section
variable {w0 w : World} {A : Ad} {W : Wd}
theorem do_s (d k a K I G y x : Int) (t : ByteArray) (he : OEnv w0) (h : WSt w0 w A W) (hs : Sp.Ok ⟨d, k, a, ⟨K, I, G⟩, y, x, t⟩) (ht : t.size ≤ 40) :
    Calls Tryz.prog 42 #[.pointer (some ⟨A.b, 0, none⟩), .agg #[.int .i64 d, .int .i64 k, .int .i64 a, .int .i64 K, .int .i64 I, .int .u32 G, .int .i64 y, .int .i64 x, .string t]] w (DoV w0 w A (W.does ⟨d, k, a, ⟨K, I, G⟩, y, x, t⟩) (W.dK ⟨d, k, a, ⟨K, I, G⟩, y, x, t⟩) (W.dI ⟨d, k, a, ⟨K, I, G⟩, y, x, t⟩) (W.dG ⟨d, k, a, ⟨K, I, G⟩, y, x, t⟩) (W.dB ⟨d, k, a, ⟨K, I, G⟩, y, x, t⟩)) :=
  do_ok A W ⟨d, k, a, ⟨K, I, G⟩, y, x, t⟩ w0 w he h hs (by show t.size ≤ _; omega)
theorem copy_s (h : WSt w0 w A W) : Calls Tryz.prog 26 #[.pointer (some ⟨A.b, 0, none⟩)] w fun e w' => ∃ B, e = .returned (.pointer (some ⟨B.b, 0, none⟩)) ∧ Hid (∀ C U, WSt w0 w C U → W2 w0 w' C B U W) ∧ Hid (Below w.heap.size w w') := by
  refine (wcopy_ok A W w h.f).mono ?_
  rintro e w' ⟨B, rfl, k⟩
  exact ⟨B, rfl, fun C U f => ⟨f.quiet k.bel, h.since k, Apart.fresh f k⟩, k.bel⟩
end

/-! ### made -/
def goes (W : Wd) (S : Nat → Sp) : Nat → Wd
  | 0 => W
  | n + 1 => (goes W S n).does (S n)
/-- The world behind a script. -/
def runs (S : Nat → Sp) (n : Nat) : Wd := goes (wfresh 1) S n
set_option maxRecDepth 100000 in
set_option maxHeartbeats 2000000 in
theorem made_ok (a : Option Addr) (len cap : Nat) (S : Nat → Sp) (w : World) (he : OEnv w) (hl : len ≤ cap) (_hm : cap ≤ 9223372036854775807) (h1000 : len ≤ 1000) (hu : Sps w a len S) (hs : ∀ j, j < len → (S j).t.size ≤ 40) :
    Calls Tryz.prog 44 #[.slice a len cap] w fun e w' => ∃ A, e = .returned (.pointer (some ⟨A.b, 0, none⟩)) ∧ Hid (WSt w w' A (runs S len)) := by
  have HE := Lib.hid he
  have HU := Lib.hid hu
  have HS := Lib.hid hs
  clear he hu hs
  go_enter Tryz.func44, Tryz.ntmps44
  go_wp2_with fail
  refine (wnew_ok 1 w (by omega) (by omega)).mono ?_
  rintro e w0 ⟨A, rfl, hS0⟩
  have S0 : Hid (WSt w w0 A (runs S 0)) := hS0
  clear hS0
  unfold ptr
  go_wp2_with fail
  go_loopw [5] (fun v wr => ∃ j : Nat, j ≤ len ∧ v = .int .i64 j ∧ Hid (WSt w wr A (runs S j))) (fun v _ => len - (intOf v).toNat)
  case atStart => exact ⟨0, Nat.zero_le _, rfl, S0.out⟩
  case round =>
    clear S0
    obtain ⟨j, hj, rfl, HW⟩ := hrel
    by_cases hlt : j < len
    · obtain ⟨b, off, rfl, hb, hc⟩ := (HU.out.below HW.out.bel).at_ (by omega)
      obtain ⟨c0, c1, c2, c3, c4, c5, c6, c7, c8⟩ := hc j hlt
      have hok := HU.out.bd j hlt
      have ht := HS.out j hlt
      have hn : runs S (j + 1) = (runs S j).does (S j) := rfl
      clear hc
      generalize S j = s at *
      obtain ⟨d, k, a, ⟨K, I, G⟩, y, x, t⟩ := s
      dsimp only at c0 c1 c2 c3 c4 c5 c6 c7 c8 ht
      have DO := Lib.hid (do_s d k a K I G y x t HE.out HW.out hok ht)
      have HN := Lib.hid hn
      clear hok ht hn HW
      go_wp2_with fail
      refine DO.out.mono ?_
      rintro e w1 ⟨rfl, hS, hT⟩
      have S1 := hS.out
      rw [← HN.out] at S1
      have S1' := Lib.hid S1
      clear S1 hS hT DO HN c0 c1 c2 c3 c4 c5 c6 c7 c8
      go_wp2
      go_roundw
      case rel => exact ⟨j + 1, by omega, by go_num, S1'.out⟩
      case measure => simp [intOf]; omega
    · obtain rfl : j = len := by omega
      go_wp2
      go_ret
      exact ⟨A, rfl, HW.out⟩
end Go.Proofs.YtpinmiplefidpaaGreatDoor
