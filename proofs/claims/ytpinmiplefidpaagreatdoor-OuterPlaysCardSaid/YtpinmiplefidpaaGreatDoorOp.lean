/- The ledger's list, as it is shown and kept; what a step does to time and ledger. -/
import Derived.Test.YtpinmiplefidpaaGreatDoorOz
namespace Go.Proofs.YtpinmiplefidpaaGreatDoor
open Go.RowKit

/-- A slice that reads as a list of attempts, and is no part of the world A. -/
structure RowB (w : World) (A : Ad) (v : Value) (l : List LG.Att) : Prop where
  rd : LG.RdA w v l
  off : ∀ g off c n, v = .slice (some ⟨g, off, none⟩) n c → ¬ WFoot w A g ∧ g < w.heap.size
section
variable {w0 w w' : World} {A : Ad} {W U : Wd} {v : Value} {l : List LG.Att}
theorem RowB.step (h : RowB w A v l) (q : WStep A w w') : RowB w' A v l :=
  ⟨h.rd.same q.k.size fun g off c n e i => World.cell?_of_block (a := ⟨g, i, none⟩) (q.k.block g (h.off g off c n e).2 (h.off g off c n e).1), fun g off c n e => by
    obtain ⟨h1, h2⟩ := h.off g off c n e
    refine ⟨fun x => ?_, Nat.lt_of_lt_of_le h2 q.k.size⟩
    rcases q.g g x with y | y
    · exact h1 y
    · omega⟩
theorem RowB.quiet (h : RowB w A v l) (f : WW w A W) (q : Below w.heap.size w w') : RowB w' A v l := h.step (f.quiet q)
theorem RowB.nil (w : World) (A : Ad) : RowB w A (.slice none 0 0) [] := ⟨LG.RdA.nil w, fun _ _ _ _ e => by cases e⟩
theorem RowB.new (f : WW w A W) (q : Below w.heap.size w w') (h : w'.ownsRow w.heap.size 70 6 v l.length (LG.cls l)) : RowB w' A v l :=
  ⟨LG.RdA.of_own h, fun g off c n e => by
    have hg : v.ownBlock = some g := by rw [e]; rfl
    obtain ⟨h1, h2⟩ := h.lt g hg
    refine ⟨fun x => ?_, h2⟩
    have := f.foot_lt (((f.below q).2 g).1 x)
    omega⟩
theorem own_formA {b : Nat} {xs : List Value} {n : Nat} (h : w.ownsRow b 70 6 v n xs) : ∃ p c, v = .slice p n c := by
  rcases h.2 with ⟨rfl, h0⟩ | ⟨g, cap, cur, rfl, _⟩
  · exact ⟨none, 0, by rw [h0]⟩
  · exact ⟨_, _, rfl⟩
/-- All of a world's ledger. -/
theorem alls_s (b bk : Nat) (lo : Nat) (hL : LG.LedW w b bk lo l) (h : WSt w0 w A W) : Calls Tryz.prog 40 #[.pointer (some ⟨b, 0, none⟩)] w fun e w' =>
    ∃ p c, e = .returned (.slice p l.length c) ∧ Hid (RowB w' A (.slice p l.length c) l) ∧ Hid (WSt w0 w' A W) ∧ Hid (Below w.heap.size w w') := by
  refine (LG.all_ok b bk lo l w hL).mono ?_
  rintro e w' ⟨v, rfl, ho, hb⟩
  obtain ⟨p, c, rfl⟩ := own_formA ho
  exact ⟨p, c, rfl, RowB.new h.f hb ho, h.quiet hb, hb⟩
end

/-! ### time and ledger behind a step -/
section
variable {W : Wd} {k i g x y : Int}
theorem Wd.rel_T : (W.rel k i g y).T = W.T := by
  unfold Wd.rel
  split
  · split <;> rfl
  · rfl
theorem Wd.tick_T : W.T ≤ (W.tick x).T := by
  unfold Wd.tick
  split
  · rename_i h
    obtain ⟨⟨h1, _⟩, _⟩ := Wd.tE_zero h
    show W.T ≤ W.T + x
    omega
  · exact Int.le_refl _
/-- What a step does: nothing to both; or time goes on; or an attempt is written. -/
theorem Wd.did (s : Sp) : ((W.does s).B = W.B ∧ (W.does s).T = W.T) ∨ ((W.does s).B = W.B ∧ s.d = 3 ∧ W.T ≤ (W.does s).T) ∨ ∃ a : LG.Att, (W.does s).B = W.B ++ [a] ∧ (W.does s).T = W.T ∧ s.d = 1 ∧ a.t = W.T ∧ a.k = s.o.k ∧ a.i = s.o.i ∧ a.g = s.o.g := by
  rcases Wd.does_B (W := W) s with e | ⟨e, h1, _, h3⟩
  · by_cases h3 : s.d = 3
    · refine .inr (.inl ⟨e, h3, ?_⟩)
      unfold Wd.does
      rw [if_neg (by omega), if_neg (by omega), if_neg (by omega), if_pos h3]
      exact Wd.tick_T
    · refine .inl ⟨e, ?_⟩
      unfold Wd.does
      split
      · exact Wd.acq_T W _ _
      · split
        · exact Wd.rel_T
        · split
          · rfl
          · split <;> rfl
  · exact .inr (.inr ⟨_, e, by rw [h3]; exact Wd.rel_T, h1, rfl, rfl, rfl, rfl⟩)
end
end Go.Proofs.YtpinmiplefidpaaGreatDoor
