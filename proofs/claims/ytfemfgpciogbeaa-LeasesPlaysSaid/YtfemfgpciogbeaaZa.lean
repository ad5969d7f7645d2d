/- The document's desk: its words in memory; the contracts of its valid, span, time, check. -/
import Derived.Test.YtfemfgpciogbeaaYw
import Derived.Test.YtfemfgpciogbeaaZu
namespace Go.Proofs.Ytfemfgpciogbeaa
open Go.RowKit

/-- The document's desk: its struct's block q, its table at c and d, its times' block g. -/
structure QW (w : World) (q c d g : Nat) (D : Dk) : Prop where
  ok : D.Ok
  tab : RefW w c d D.t
  at_ : ∃ (cap : Nat) (cur : Array Value), Bk w q 83 #[.bool true, .pointer (some ⟨c, 0, none⟩), .slice (some ⟨g, 0, none⟩) D.t.n cap] ∧ Bk w g 2 cur ∧ cur.size = cap ∧ D.t.n ≤ cap ∧ cap ≤ maxLen ∧ ∀ i, i < D.t.n → cur[i]? = some (.int .i64 (D.u i))
def QFt (q c d g z : Nat) : Prop := z = q ∨ z = c ∨ z = d ∨ z = g
section
variable {w w' : World} {q c d g : Nat} {D : Dk}
theorem QW.qb (h : QW w q c d g D) : ∃ cs, Bk w q 83 cs := by obtain ⟨_, _, h1, _⟩ := h.at_; exact ⟨_, h1⟩
theorem QW.gb (h : QW w q c d g D) : ∃ cs, Bk w g 2 cs := by obtain ⟨_, _, _, h1, _⟩ := h.at_; exact ⟨_, h1⟩
theorem RefW.cb {T : Tb} (h : RefW w c d T) : ∃ cs, Bk w c 108 cs := by obtain ⟨_, _, h1, _⟩ := h.at_; exact ⟨_, h1⟩
theorem RefW.db {T : Tb} (h : RefW w c d T) : ∃ cs, Bk w d 110 cs := by obtain ⟨_, _, _, h1, _⟩ := h.at_; exact ⟨_, h1⟩
theorem QW.foot_lt (h : QW w q c d g D) {z : Nat} (hz : QFt q c d g z) : z < w.heap.size := by
  rcases hz with rfl | rfl | rfl | rfl
  · obtain ⟨_, h⟩ := h.qb; exact h.lt
  · exact h.tab.ct
  · exact h.tab.dt
  · obtain ⟨_, h⟩ := h.gb; exact h.lt
theorem QW.off {A : Nat} {t : TypeId} {cs : Array Value} (h : QW w q c d g D) (hA : Bk w A t cs) (h1 : t ≠ 83 := by decide) (h2 : t ≠ 108 := by decide) (h3 : t ≠ 110 := by decide) (h4 : t ≠ 2 := by decide) : ¬ QFt q c d g A := by
  rintro (rfl | rfl | rfl | rfl)
  · obtain ⟨_, hb⟩ := h.qb; exact h1 (hA.uniq hb).1
  · obtain ⟨_, hb⟩ := h.tab.cb; exact h2 (hA.uniq hb).1
  · obtain ⟨_, hb⟩ := h.tab.db; exact h3 (hA.uniq hb).1
  · obtain ⟨_, hb⟩ := h.gb; exact h4 (hA.uniq hb).1
theorem QW.same (h : QW w q c d g D) (e : ∀ z, QFt q c d g z → w'.heap[z]? = w.heap[z]?) : QW w' q c d g D :=
  ⟨h.ok, h.tab.same (e c (.inr (.inl rfl))) (e d (.inr (.inr (.inl rfl)))), by
    obtain ⟨cap, cur, h1, h2, hr⟩ := h.at_
    exact ⟨cap, cur, h1.same (e q (.inl rfl)), h2.same (e g (.inr (.inr (.inr rfl)))), hr⟩⟩
theorem QW.kept {S : Nat → Prop} (h : QW w q c d g D) (k : Kept S w w') (hs : ∀ z, QFt q c d g z → ¬ S z) : QW w' q c d g D := h.same fun z hz => k.block z (h.foot_lt hz) (hs z hz)
theorem QW.below (h : QW w q c d g D) (k : Below w.heap.size w w') : QW w' q c d g D := h.same fun z hz => k.block z (h.foot_lt hz)
theorem QW.cells (h : QW w q c d g D) : ∃ cap, w.cell? ⟨q, 0, none⟩ = some (.bool true) ∧ w.cell? ⟨q, 1, none⟩ = some (.pointer (some ⟨c, 0, none⟩)) ∧ w.cell? ⟨q, 2, none⟩ = some (.slice (some ⟨g, 0, none⟩) D.t.n cap) ∧ D.t.n ≤ cap ∧ cap ≤ 9223372036854775807 := by
  obtain ⟨cap, _, h1, _, _, h2, h3, _⟩ := h.at_; exact ⟨cap, h1.cell 0, h1.cell 1, h1.cell 2, h2, by unfold maxLen at h3; omega⟩
theorem QW.ci (h : QW w q c d g D) {i : Nat} (hi : i < D.t.n) : w.cell? ⟨g, i, none⟩ = some (.int .i64 (D.u i)) ∧ w.frozen? ⟨g, i, none⟩ = false ∧ g < w.heap.size := by
  obtain ⟨_, cur, _, h1, _, _, _, h2⟩ := h.at_
  exact ⟨by rw [h1.cell]; exact h2 i hi, h1.frozen i, h1.lt⟩
end
theorem evalid_yes (q : Nat) (w : World) (h : w.cell? ⟨q, 0, none⟩ = some (.bool true)) : Calls Try.prog 43 #[.pointer (some ⟨q, 0, none⟩)] w fun e w' => e = .returned (.bool true) ∧ w = w' := by
  go_enter Try.func43, Try.ntmps43
  go_wp2
  go_ret
  exact ⟨rfl, rfl⟩
theorem evalid_nil (w : World) : Calls Try.prog 43 #[.pointer none] w fun e w' => e = .returned (.bool false) ∧ w = w' := by
  go_enter Try.func43, Try.ntmps43
  go_wp2
  go_ret
  exact ⟨rfl, rfl⟩
theorem espan_yes (x : Int) (w : World) (h : IsSpan x) : Calls Try.prog 44 #[.int .i64 x] w fun e w' => e = .returned (.bool true) ∧ w = w' := by
  obtain ⟨h1, h2⟩ := h
  go_enter Try.func44, Try.ntmps44
  go_wp2
  go_ret
  exact ⟨by simp, rfl⟩
theorem espan_no (x : Int) (w : World) (h : ¬ IsSpan x) : Calls Try.prog 44 #[.int .i64 x] w fun e w' => e = .returned (.bool false) ∧ w = w' := by
  unfold IsSpan at h
  by_cases h1 : x < 1
  · clear h
    go_enter Try.func44, Try.ntmps44
    go_wp2
    go_ret
    exact ⟨rfl, rfl⟩
  · have h2 : 1048576 < x := by omega
    have h3 : 1 ≤ x := by omega
    clear h h1
    go_enter Try.func44, Try.ntmps44
    go_wp2
    go_ret
    exact ⟨by simp; omega, rfl⟩
theorem espan_is (x : Int) (b : Bool) (w : World) (h : decide (IsSpan x) = b) : Calls Try.prog 44 #[.int .i64 x] w fun e w' => e = .returned (.bool b) ∧ w = w' := by
  cases b with
  | true => exact espan_yes x w (by simpa using h)
  | false => exact espan_no x w (by simpa using h)
theorem etime_yes (x : Int) (w : World) (h : IsTime x) : Calls Try.prog 45 #[.int .i64 x] w fun e w' => e = .returned (.bool true) ∧ w = w' := by
  obtain ⟨h1, h2⟩ := h
  go_enter Try.func45, Try.ntmps45
  go_wp2
  go_ret
  exact ⟨by simp, rfl⟩
theorem etime_no (x : Int) (w : World) (h : ¬ IsTime x) : Calls Try.prog 45 #[.int .i64 x] w fun e w' => e = .returned (.bool false) ∧ w = w' := by
  unfold IsTime at h
  by_cases h1 : x < 0
  · clear h
    go_enter Try.func45, Try.ntmps45
    go_wp2
    go_ret
    exact ⟨rfl, rfl⟩
  · have h2 : 1099511627776 < x := by omega
    have h3 : 0 ≤ x := by omega
    clear h h1
    go_enter Try.func45, Try.ntmps45
    go_wp2
    go_ret
    exact ⟨by simp; omega, rfl⟩
theorem etime_is (x : Int) (b : Bool) (w : World) (h : decide (IsTime x) = b) : Calls Try.prog 45 #[.int .i64 x] w fun e w' => e = .returned (.bool b) ∧ w = w' := by
  cases b with
  | true => exact etime_yes x w (by simpa using h)
  | false => exact etime_no x w (by simpa using h)
theorem echeck_nil (x y z : Int) (r : Bool) (w : World) : Calls Try.prog 50 #[.pointer none, .agg #[.int .i64 x, .int .i64 y, .int .u32 z], .bool r] w fun e w' => e = .returned (.int .i64 1) ∧ Below w.heap.size w w' := by
  go_enter Try.func50, Try.ntmps50
  go_wp2_with (go_at_call 43; refine (evalid_nil _).mono ?_; rintro e w' ⟨rfl, rfl⟩)
  go_ret
  exact ⟨rfl, bal _ _⟩
theorem echeck_wrong (q : Nat) (x y z : Int) (w : World) (h : w.cell? ⟨q, 0, none⟩ = some (.bool true)) : Calls Try.prog 50 #[.pointer (some ⟨q, 0, none⟩), .agg #[.int .i64 x, .int .i64 y, .int .u32 z], .bool true] w fun e w' => e = .returned (.int .i64 2) ∧ Below w.heap.size w w' := by
  go_enter Try.func50, Try.ntmps50
  go_wp2_with (go_at_call 43; refine (evalid_yes q _ (cell_keeps (bal _ _) h)).mono ?_; rintro e w' ⟨rfl, rfl⟩)
  go_ret
  exact ⟨rfl, bal _ _⟩
set_option maxHeartbeats 1000000 in
theorem echeck_bad (q : Nat) (x y z : Int) (hr : RgO x y z) (hf : ¬ IsLease x y z) (w : World) (h : w.cell? ⟨q, 0, none⟩ = some (.bool true)) : Calls Try.prog 50 #[.pointer (some ⟨q, 0, none⟩), .agg #[.int .i64 x, .int .i64 y, .int .u32 z], .bool false] w fun e w' => e = .returned (.int .i64 2) ∧ Below w.heap.size w w' := by
  by_cases hx : x = 3
  · subst hx
    have hb : Bad 64 3 y z := by
      rcases not_lease hf hr with hb | ⟨hk, k', i', g', e, _⟩
      · exact hb
      · omega
    have HR := Lib.hid hr
    have HH := Lib.hid hb
    clear hr hf hb
    go_enter Try.func50, Try.ntmps50
    go_wp2_with (first
      | (go_at_call 43; refine (evalid_yes q _ (cell_keeps (bal _ _) h)).mono ?_; rintro e w' ⟨rfl, rfl⟩)
      | (go_at_call 69; refine (rochk_bad _ _ _ HR.out HH.out _).mono ?_; rintro e w2 ⟨rfl, hb2⟩; have HB := Lib.hid hb2; clear hb2))
    go_ret
    exact ⟨rfl, bel2 (bal _ _) HB.out⟩
  · have hx2 : (x != 3) = true := by simpa using hx
    clear hr hf hx
    go_enter Try.func50, Try.ntmps50
    go_wp2_with (go_at_call 43; refine (evalid_yes q _ (cell_keeps (bal _ _) h)).mono ?_; rintro e w' ⟨rfl, rfl⟩)
    go_ret
    exact ⟨rfl, bal _ _⟩
set_option maxHeartbeats 1000000 in
theorem echeck_is (q c d g : Nat) (D : Dk) (x y z E : Int) (hr : RgO x y z) (hf : IsLease x y z) (hE : D.t.chk y z = E) (w : World) (h : QW w q c d g D) : Calls Try.prog 50 #[.pointer (some ⟨q, 0, none⟩), .agg #[.int .i64 x, .int .i64 y, .int .u32 z], .bool false] w fun e w' => e = .returned (.int .i64 E) ∧ Below w.heap.size w w' := by
  obtain ⟨rfl, i', g', rfl, rfl, ho⟩ := hf.okn hr
  obtain ⟨cap, c0, c1, c2, _, _⟩ := h.cells
  have CK : Hid (∀ W, Below w.heap.size w W → Calls Try.prog 70 #[.pointer (some ⟨c, 0, none⟩), .agg #[.int .i64 i', .int .u32 g']] W fun e w' => e = .returned (.int .i64 E) ∧ Below W.heap.size W w') := fun W hW => rchk_s c d D.t i' g' E W (h.below hW).tab hE
  have HC : Hid (∀ W, Below w.heap.size w W → W.cell? ⟨q, 1, none⟩ = some (.pointer (some ⟨c, 0, none⟩))) := fun W hW => by obtain ⟨_, _, h1, _⟩ := (h.below hW).cells; exact h1
  have HH := Lib.hid ho
  clear hr hf ho h hE c1 c2
  go_enter Try.func50, Try.ntmps50
  go_wp2_with (first
    | (go_at_call 43; refine (evalid_yes q _ (cell_keeps (bal _ _) c0)).mono ?_; rintro e w' ⟨rfl, rfl⟩)
    | (go_at_call 69; refine (rochk_ok _ _ _ HH.out _).mono ?_; rintro e w2 ⟨rfl, hb2⟩; have HB := Lib.hid (bel2 (bal _ _) hb2); obtain ⟨q0, q1, q2, hl2⟩ := box_o hb2; have hc3 := HC.out w2 HB.out; clear hb2))
  have hbl : q < w2.heap.size := World.block_lt_of_cell? _ _ hc3
  go_region_held3 (fun W => W.cell? ⟨q, 1, none⟩ = some (.pointer (some ⟨c, 0, none⟩)) ∧ W.cell? ⟨w.heap.size, 1, none⟩ = some (.int .i64 i') ∧ W.cell? ⟨w.heap.size, 2, none⟩ = some (.int .u32 g')) (first | (with_reducible exact hz1) | (exact ⟨hc3, q1, q2⟩)) (first
    | (go_at_call 70; (with_reducible refine (CK.out _ (bel2 HB.out (by exact ⟨rfl, rfl, rfl, Nat.le_refl _, fun _ _ => rfl⟩))).mono ?_); rintro e w5 ⟨rfl, hb5⟩; have HB5 := Lib.hid (bel2 (bel2 HB.out (by exact ⟨rfl, rfl, rfl, Nat.le_refl _, fun _ _ => rfl⟩)) hb5); have hz1 := And.intro (cell_keeps hb5 hc3) (And.intro (cell_keeps hb5 q1) (cell_keeps hb5 q2)); clear hb5))
  all_goals
    go_wp2
    go_ret
    exact ⟨rfl, HB5.out⟩
/-- check. -/
theorem echeck_ok (q c d g : Nat) (D : Dk) (x y z : Int) (hr : RgO x y z) (w : World) (h : QW w q c d g D) : Calls Try.prog 50 #[.pointer (some ⟨q, 0, none⟩), .agg #[.int .i64 x, .int .i64 y, .int .u32 z], .bool false] w fun e w' => e = .returned (.int .i64 (D.chk x y z)) ∧ Below w.heap.size w w' := by
  obtain ⟨cap, c0, _⟩ := h.cells
  by_cases hf : IsLease x y z
  · unfold Dk.chk; rw [if_pos hf]; exact echeck_is q c d g D x y z _ hr hf rfl w h
  · unfold Dk.chk; rw [if_neg hf]; exact echeck_bad q x y z hr hf w c0
end Go.Proofs.Ytfemfgpciogbeaa
