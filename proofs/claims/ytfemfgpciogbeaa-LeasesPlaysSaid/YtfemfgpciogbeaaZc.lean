/- The contracts of the document's Return and Renew. -/
import Derived.Test.YtfemfgpciogbeaaZb
namespace Go.Proofs.Ytfemfgpciogbeaa
open Go.RowKit

/-- What a call leaves of the document's desk. -/
def QWV (q c d g : Nat) (U : Dk) (w w' : World) : Prop := Hid (QW w' q c d g U) ∧ Hid (Kept (QFt q c d g) w w')
section
variable {w w' : World} {q c d g : Nat} {D : Dk}
theorem QW.ne_d (h : QW w q c d g D) : q ≠ d ∧ g ≠ d := by
  obtain ⟨_, hq⟩ := h.qb
  obtain ⟨_, hg⟩ := h.gb
  obtain ⟨_, hd⟩ := h.tab.db
  exact ⟨by rintro rfl; exact absurd (hq.uniq hd).1 (by decide), by rintro rfl; exact absurd (hg.uniq hd).1 (by decide)⟩
theorem QW.ne_g (h : QW w q c d g D) : q ≠ g ∧ c ≠ g ∧ d ≠ g := by
  obtain ⟨_, hq⟩ := h.qb
  obtain ⟨_, hg⟩ := h.gb
  obtain ⟨_, hd⟩ := h.tab.db
  obtain ⟨_, hc⟩ := h.tab.cb
  exact ⟨by rintro rfl; exact absurd (hq.uniq hg).1 (by decide), by rintro rfl; exact absurd (hc.uniq hg).1 (by decide), by rintro rfl; exact absurd (hd.uniq hg).1 (by decide)⟩
theorem QW.tabbed {T : Tb} (h : QW w q c d g D) (k : Kept (· = d) w w') (ht : RefW w' c d T) (hn : T.n = D.t.n) (ho : Dk.Ok ⟨T, D.u⟩) : QW w' q c d g ⟨T, D.u⟩ := by
  obtain ⟨n1, n2⟩ := h.ne_d
  obtain ⟨cap, cur, h1, h2, h3, h4, h5, h6⟩ := h.at_
  refine ⟨ho, ht, cap, cur, ?_, h2.kept k n2, h3, by show T.n ≤ cap; rw [hn]; exact h4, h5, fun i hi => h6 i (by rw [← hn]; exact hi)⟩
  show Bk w' q _ #[_, _, .slice _ T.n cap]
  rw [hn]
  exact h1.kept k n1
/-- A time is stored. -/
theorem QW.put {i y : Nat} (h : QW w q c d g D) (hi : i < D.t.n) (hy : y ≤ 1099511627776) : QW (w.setCell ⟨g, i, none⟩ (.int .i64 y)) q c d g (D.until i y) ∧ Kept (· = g) w (w.setCell ⟨g, i, none⟩ (.int .i64 y)) := by
  obtain ⟨n1, n2, n3⟩ := h.ne_g
  have k : Kept (· = g) w (w.setCell ⟨g, i, none⟩ (.int .i64 y)) := (Kept.refl _ w).put1 i _
  obtain ⟨cap, cur, h1, h2, h3, h4, h5, h6⟩ := h.at_
  refine ⟨⟨h.ok.until i hy, h.tab.kept k n2 n3, cap, _, h1.kept k n1, h2.put i _, by simpa using h3, h4, h5, fun j hj => ?_⟩, k⟩
  rw [Array.getElem?_setIfInBounds]
  by_cases e : i = j
  · subst e
    rw [if_pos rfl, if_pos (by omega)]
    simp [Dk.until, put_same]
  · rw [if_neg e, h6 j hj]
    simp [Dk.until, put_other (fun h => e h.symm)]
theorem QWV.of_below (h : QW w q c d g D) (k : Below w.heap.size w w') : QWV q c d g D w w' := ⟨h.below k, Kept.of_below k⟩
end
theorem eret_nil (x y z : Int) (w : World) : Calls Try.prog 18 #[.pointer none, .agg #[.int .i64 x, .int .i64 y, .int .u32 z]] w fun e w' => e = .returned (.int .i64 1) ∧ Below w.heap.size w w' := by
  go_enter Try.func18, Try.ntmps18
  go_wp2_with (go_at_call 50; refine (echeck_nil _ _ _ _ _).mono ?_; rintro e w2 ⟨rfl, hb2⟩; have HB := Lib.hid (bel2 (bal _ _) hb2); clear hb2)
  go_ret
  exact ⟨rfl, HB.out⟩
set_option maxHeartbeats 1000000 in
theorem eret_ok (q c d g : Nat) (D : Dk) (x y z : Int) (hr : RgO x y z) (w : World) (h : QW w q c d g D) : Calls Try.prog 18 #[.pointer (some ⟨q, 0, none⟩), .agg #[.int .i64 x, .int .i64 y, .int .u32 z]] w fun e w' => e = .returned (.int .i64 (D.chk x y z)) ∧ QWV q c d g (D.ret x y z) w w' := by
  have CK : Hid (∀ W, Below w.heap.size w W → Calls Try.prog 50 #[.pointer (some ⟨q, 0, none⟩), .agg #[.int .i64 x, .int .i64 y, .int .u32 z], .bool false] W fun e w' => e = .returned (.int .i64 (D.chk x y z)) ∧ Below W.heap.size W w') := fun W hW => echeck_ok q c d g D x y z hr W (h.below hW)
  by_cases h0 : D.chk x y z = 0
  · have e1 : D.ret x y z = D.give y.toNat := if_pos h0
    obtain ⟨rfl, i, rfl, hi, hs, rfl⟩ := Dk.chk_is h0
    rw [Int.toNat_natCast] at e1
    rw [h0] at CK ⊢
    rw [e1]
    have HC : Hid (∀ W, Below w.heap.size w W → W.cell? ⟨q, 1, none⟩ = some (.pointer (some ⟨c, 0, none⟩)) ∧ q < W.heap.size) := fun W hW => by
      obtain ⟨_, _, h1, _⟩ := (h.below hW).cells
      exact ⟨h1, World.block_lt_of_cell? _ _ h1⟩
    have GV : Hid (∀ W, Below w.heap.size w W → Calls Try.prog 53 #[.pointer (some ⟨c, 0, none⟩), .agg #[.int .i64 i, .int .u32 (D.t.g i)]] W fun e w' => e = .returned (.int .i64 0) ∧ Hid (QWV q c d g (D.give i) w w') ∧ Hid (∀ A cs, Bk W A 33 cs → Bk w' A 33 cs)) := fun W hW =>
      (rgive_ok c d D.t i W (h.below hW).tab hi hs).mono fun _ w' ⟨e, h1, h2⟩ => ⟨e, ⟨(h.below hW).tabbed h2 h1 (Tb.gave_n _ _) (h.ok.give i), (Kept.of_below hW).trans (h2.mono fun _ _ e => .inr (.inr (.inl e)))⟩, fun A cs hA => hA.kept h2 (by
        obtain ⟨_, hd⟩ := (h.below hW).tab.db
        rintro rfl; exact absurd (hA.uniq hd).1 (by decide))⟩
    have hnd := h.ne_d.1
    clear h hr hs hi h0 e1
    generalize D.t.g i = z at *
    go_enter Try.func18, Try.ntmps18
    go_wp2_with (go_at_call 50; refine (CK.out _ (bal _ _)).mono ?_; rintro e w2 ⟨rfl, hb2⟩; have HB := Lib.hid (bel2 (bal _ _) hb2); obtain ⟨q0, q1, q2, hl2⟩ := box_o hb2; have OB := Lib.hid ((Bk.new w 33 #[.int .i64 3, .int .i64 i, .int .u32 z]).below hb2); obtain ⟨c2, c3⟩ := HC.out w2 HB.out; clear hb2)
    go_region_held3 (fun W => W.cell? ⟨q, 1, none⟩ = some (.pointer (some ⟨c, 0, none⟩)) ∧ W.cell? ⟨w.heap.size, 1, none⟩ = some (.int .i64 i) ∧ W.cell? ⟨w.heap.size, 2, none⟩ = some (.int .u32 z)) (first | (with_reducible exact hz1) | (exact ⟨c2, q1, q2⟩)) (first
      | (go_at_call 53; (with_reducible refine (GV.out _ (bel2 HB.out (by exact ⟨rfl, rfl, rfl, Nat.le_refl _, fun _ _ => rfl⟩))).mono ?_); rintro e w5 ⟨rfl, HQ, HK⟩; obtain ⟨y1, y2, y3⟩ := cells3 (HK.out _ _ (OB.out.below (by exact ⟨rfl, rfl, rfl, Nat.le_refl _, fun _ _ => rfl⟩))); obtain ⟨_, _, y4, _⟩ := HQ.out.1.out.cells; have hz1 := And.intro y4 (And.intro y2 y3)))
    all_goals
      go_wp2
      go_ret
      exact ⟨rfl, HQ.out⟩
  · have e1 : D.ret x y z = D := if_neg h0
    rw [e1]
    have HQ := Lib.hid h
    generalize D.chk x y z = E at *
    have h1 : (E != 0) = true := by simpa using h0
    clear h hr h0 e1
    go_enter Try.func18, Try.ntmps18
    go_wp2_with (go_at_call 50; refine (CK.out _ (bal _ _)).mono ?_; rintro e w2 ⟨rfl, hb2⟩; have HB := Lib.hid (bel2 (bal _ _) hb2); clear hb2)
    go_ret
    exact ⟨rfl, QWV.of_below HQ.out HB.out⟩
end Go.Proofs.Ytfemfgpciogbeaa
