/- The contract of the document's Copy. -/
import Derived.Deep.RegionHeldLaw
import Derived.Test.YtfemfgpciogbeaaZg
namespace Go.Proofs.Ytfemfgpciogbeaa
open Go.RowKit

def usf (u : Nat → Nat) (n : Nat) : List Value := (List.range n).map fun i => .int .i64 (u i)
theorem usf_len (u : Nat → Nat) (n : Nat) : (usf u n).length = n := by simp [usf]
theorem usf_at (u : Nat → Nat) {n i : Nat} (h : i < n) : (usf u n)[i]? = some (.int .i64 (u i)) := by simp [usf, h]
/-- The times appended to a new empty slice. -/
theorem app_all {W : World} {base x n cap g : Nat} {u : Nat → Nat} (ho : W.ownsRow base 2 1 (.slice (some ⟨x, 0, none⟩) 0 0) 0 []) (hs : ∀ i, i < n → W.cell? ⟨g, i, none⟩ = some (.int .i64 (u i))) (h0 : 0 < n) (hn : n ≤ 64) (hb : base ≤ W.heap.size) :
    ∃ p c W', (Builtin.append_ #[60, 60] 60 #[.slice (some ⟨x, 0, none⟩) 0 0, .slice (some ⟨g, 0, none⟩) n cap]).run Try.prog W = .ok (.slice p n c) W' ∧ W'.ownsRow base 2 1 (.slice p n c) n (usf u n) ∧ Kept (fun g => x = g) W W' := by
  obtain ⟨j0, hj, hy0, hy1, hy2⟩ := info_parts info_i64
  obtain ⟨v', W', hr, hown, hgr, _⟩ := run_append_own (P := Try.prog) (w := W) base 60 60 2 j0 _ 1 8 Try.underlying60 hj hy0 hy1 hy2 rfl (by decide) (.slice (some ⟨x, 0, none⟩) 0 0) 0 [] ho
    ⟨g, 0, none⟩ n cap (usf u n) (by rw [usf_len, Nat.mul_one]) (fun j v hj => by
      have e : (⟨g, 0, none⟩ : Addr).add j = ⟨g, j, none⟩ := by unfold Addr.add; split <;> simp_all
      have hjl := (List.getElem?_eq_some_iff.1 hj).1
      rw [usf_len] at hjl
      rw [usf_at u hjl] at hj
      rw [e, hs j hjl]; exact hj) (fun v hv => by
      unfold usf at hv
      obtain ⟨i, _, rfl⟩ := List.mem_map.1 hv
      rfl) (by unfold maxLen; omega) (by omega) hb
  have ho2 : W'.ownsRow base 2 1 v' n (usf u n) := by simpa using hown
  obtain ⟨p, c, rfl⟩ := own_form ho2
  exact ⟨p, c, W', hr, ho2, ⟨hgr.os, hgr.tape, hgr.output, hgr.size, fun k hk hs => hgr.block k hk fun e => hs (Eq.symm (by simpa [Value.ownBlock] using e))⟩⟩
theorem ecopy_nil (w : World) : Calls Try.prog 24 #[.pointer none] w fun e w' => e = .returned (.pointer none) ∧ w = w' := by
  go_enter Try.func24, Try.ntmps24
  go_wp2_with (go_at_call 43; refine (evalid_nil _).mono ?_; rintro e w' ⟨rfl, rfl⟩)
  go_ret
  exact ⟨rfl, rfl⟩
/-- What the copy is made of. -/
def Mk (w : World) (D : Dk) (c d : Nat) (v : Value) (W : World) : Prop := RefW W c d D.t ∧ w.heap.size ≤ c ∧ w.heap.size ≤ d ∧ W.ownsRow w.heap.size 2 1 v D.t.n (usf D.u D.t.n) ∧ Below w.heap.size w W
theorem copy_made {w W : World} {D : Dk} {c d : Nat} {p : Option Addr} {cp n : Nat} (ho : D.Ok) (hn : D.t.n = n) (h : Mk w D c d (.slice p n cp) W) : ENew D w W.heap.size (W.alloc (.cells #[.bool true, .pointer (some ⟨c, 0, none⟩), .slice p n cp] 83)) := by
  subst hn
  obtain ⟨h1, h2, h3, h4, h5⟩ := h
  have hlo := ho.t.lo
  rcases h4.2 with ⟨e, h0⟩ | ⟨g, cap, cur, e, k1, k2, k3, k4, k5, k6⟩
  · omega
  · injection e with e1 e2 e3
    subst e1 e3
    refine ⟨c, d, g, ⟨ho, h1.below (bal _ _), cp, cur, Bk.new W _ _, Bk.up k2 _, by simpa using k5, by simpa using k3, k4, fun i hi => ?_⟩, ?_, bel2 h5 (bal _ _)⟩
    · have := usf_at D.u hi
      rw [← k6, List.getElem?_take_of_lt (by omega), Array.getElem?_toList] at this
      exact this
    · rintro z (rfl | rfl | rfl | rfl)
      · exact h5.size
      · exact h2
      · exact h3
      · exact k1
set_option maxRecDepth 100000 in
set_option maxHeartbeats 2000000 in
theorem ecopy_ok (q c d g : Nat) (D : Dk) (w : World) (h : QW w q c d g D) : Calls Try.prog 24 #[.pointer (some ⟨q, 0, none⟩)] w fun e w' => ∃ q', e = .returned (.pointer (some ⟨q', 0, none⟩)) ∧ Hid (ENew D w q' w') := by
  obtain ⟨cap, c0, c1, c2, hc1, hc2⟩ := h.cells
  have hql : q < w.heap.size := World.block_lt_of_cell? _ _ c0
  have hn64 := h.ok.hi
  have hlo := h.ok.t.lo
  obtain ⟨n, hn⟩ : ∃ n, D.t.n = n := ⟨_, rfl⟩
  rw [hn] at c2 hc1 hn64 hlo
  have HN := Lib.hid hn
  have HO := Lib.hid h.ok
  have SRC : Hid (∀ W, Below w.heap.size w W → ∀ i, i < n → W.cell? ⟨g, i, none⟩ = some (.int .i64 (D.u i))) := fun W hW i hi => ((h.below hW).ci (by rw [hn]; exact hi)).1
  have CP1 : Hid (Calls Try.prog 57 #[.pointer (some ⟨c, 0, none⟩)] w.drew (RCpV D.t w.drew)) := rcopy_ok c d D.t _ (h.tab.same rfl rfl)
  have CP2 : Hid (Calls Try.prog 57 #[.pointer (some ⟨c, 0, none⟩)] (w.alloc (.cells #[] 2)).drew (RCpV D.t (w.alloc (.cells #[] 2)).drew)) := rcopy_ok c d D.t _ ((h.tab.below (bal _ _)).same rfl rfl)
  have LA : Hid (∀ w5 c' d', w.heap.size ≤ c' → w.heap.size ≤ d' → RefW w5 c' d' D.t → Below w.heap.size w w5 → ∀ x, w.heap.size ≤ x → (∀ W, W = w5 ∨ W = w5.alloc (.cells #[] 2) → W.ownsRow x 2 1 (.slice (some ⟨x, 0, none⟩) 0 0) 0 [] → c' ≠ x → d' ≠ x → ∃ p8 c8 w8, (Builtin.append_ #[60, 60] 60 #[.slice (some ⟨x, 0, none⟩) 0 0, .slice (some ⟨g, 0, none⟩) n cap]).run Try.prog W = .ok (.slice p8 n c8) w8 ∧ Hid (Mk w D c' d' (.slice p8 n c8) w8) ∧ w8.cell? ⟨q, 1, none⟩ = some (.pointer (some ⟨c, 0, none⟩)) ∧ w8.cell? ⟨q, 2, none⟩ = some (.slice (some ⟨g, 0, none⟩) n cap))) := fun w5 c' d' k1 k2 k3 k4 x hx W hW ho h1 h2 => by
    have hWW : Below w5.heap.size w5 W := by
      rcases hW with rfl | rfl
      · exact Below.refl _ _
      · exact bal _ _
    have hw : Below w.heap.size w W := bel2 k4 hWW
    obtain ⟨p8, c8, w8, hr, ho8, hk8⟩ := app_all (cap := cap) ho (SRC.out W hw) hlo hn64 (by have := (ho.lt x rfl).2; omega)
    have hk : Below w.heap.size W w8 := hk8.below hw.size (by rintro z rfl; exact hx)
    have hw8 : Below w.heap.size w w8 := hw.trans hk
    have hr5 := k3.below hWW
    refine ⟨p8, c8, w8, hr, ⟨hr5.kept hk8 (fun e => h1 e.symm) (fun e => h2 e.symm), k1, k2, ?_, hw8⟩, cell_keeps hw8 c1, cell_keeps hw8 c2⟩
    rw [HN.out]
    exact own_lower ho8 hx
  have LA1 : Hid (∀ w5 c' d', w.drew.heap.size ≤ c' → w.drew.heap.size ≤ d' → RefW w5 c' d' D.t → Below w.drew.heap.size w.drew w5 → ∃ p8 c8 w8, (Builtin.append_ #[60, 60] 60 #[.slice (some ⟨w5.heap.size, 0, none⟩) 0 0, .slice (some ⟨g, 0, none⟩) n cap]).run Try.prog (w5.alloc (.cells #[] 2)) = .ok (.slice p8 n c8) w8 ∧ Hid (Mk w D c' d' (.slice p8 n c8) w8) ∧ w8.cell? ⟨q, 1, none⟩ = some (.pointer (some ⟨c, 0, none⟩)) ∧ w8.cell? ⟨q, 2, none⟩ = some (.slice (some ⟨g, 0, none⟩) n cap)) := fun w5 c' d' k1 k2 k3 k4 => by
    have k5 : Below w.heap.size w w5 := bel2 (bel_drew (Below.refl _ _)) k4
    have hc' := k3.ct
    have hd' := k3.dt
    exact LA.out w5 c' d' k1 k2 k3 k5 w5.heap.size k5.size _ (.inr rfl) (World.ownsRow_lit w5 #[] 0 (Nat.le_refl _) (by decide) rfl) (by omega) (by omega)
  have LA2 : Hid (∀ w5 c' d', (w.alloc (.cells #[] 2)).drew.heap.size ≤ c' → (w.alloc (.cells #[] 2)).drew.heap.size ≤ d' → RefW w5 c' d' D.t → Below (w.alloc (.cells #[] 2)).drew.heap.size (w.alloc (.cells #[] 2)).drew w5 → ∃ p8 c8 w8, (Builtin.append_ #[60, 60] 60 #[.slice (some ⟨w.heap.size, 0, none⟩) 0 0, .slice (some ⟨g, 0, none⟩) n cap]).run Try.prog w5 = .ok (.slice p8 n c8) w8 ∧ Hid (Mk w D c' d' (.slice p8 n c8) w8) ∧ w8.cell? ⟨q, 1, none⟩ = some (.pointer (some ⟨c, 0, none⟩)) ∧ w8.cell? ⟨q, 2, none⟩ = some (.slice (some ⟨g, 0, none⟩) n cap)) := fun w5 c' d' k1 k2 k3 k4 => by
    have k5 : Below w.heap.size w w5 := bel2 (bel_drew (bal w (.cells #[] 2))) k4
    have s1 : w.heap.size < (w.alloc (.cells #[] 2)).drew.heap.size := by simp
    exact LA.out w5 c' d' (by omega) (by omega) k3 k5 w.heap.size (Nat.le_refl _) _ (.inl rfl) (own_below (w := (w.alloc (.cells #[] 2)).drew) (own_same (World.ownsRow_lit w #[] 0 (Nat.le_refl _) (by decide) rfl) fun _ _ => rfl) k4) (by omega) (by omega)
  have HZ : Hid (∀ w5, Below w.drew.heap.size w.drew w5 → w5.cell? ⟨q, 1, none⟩ = some (.pointer (some ⟨c, 0, none⟩)) ∧ w5.cell? ⟨q, 2, none⟩ = some (.slice (some ⟨g, 0, none⟩) n cap)) := fun w5 k4 => by
    have k5 : Below w.heap.size w w5 := bel2 (bel_drew (Below.refl _ _)) k4
    exact ⟨cell_keeps k5 c1, cell_keeps k5 c2⟩
  have HZ2 : Hid (∀ w5, Below (w.alloc (.cells #[] 2)).drew.heap.size (w.alloc (.cells #[] 2)).drew w5 → w5.cell? ⟨q, 1, none⟩ = some (.pointer (some ⟨c, 0, none⟩)) ∧ w5.cell? ⟨q, 2, none⟩ = some (.slice (some ⟨g, 0, none⟩) n cap)) := fun w5 k4 => by
    have k5 : Below w.heap.size w w5 := bel2 (bel_drew (bal w (.cells #[] 2))) k4
    exact ⟨cell_keeps k5 c1, cell_keeps k5 c2⟩
  clear h hn LA SRC
  go_enter Try.func24, Try.ntmps24
  go_wp2_with (go_at_call 43; refine (evalid_yes _ _ c0).mono ?_; rintro e w' ⟨rfl, rfl⟩)
  go_region_held3 (fun W => W.cell? ⟨q, 1, none⟩ = some (.pointer (some ⟨c, 0, none⟩)) ∧ W.cell? ⟨q, 2, none⟩ = some (.slice (some ⟨g, 0, none⟩) n cap)) (first | (with_reducible exact hz2) | (with_reducible exact hz1) | (exact ⟨c1, c2⟩) | go_keep) (first
    | (go_at_call 57; (with_reducible refine CP1.out.mono ?_); rintro e w5 ⟨c', d', rfl, k1, k2, k3, k4⟩; obtain ⟨p8, c8, w8, hrun, HMK, hz2⟩ := LA1.out w5 c' d' k1 k2 k3 k4; have HR := Lib.hid hrun; have hz1 := HZ.out w5 k4; clear hrun k1 k2 k3 k4)
    | (go_at_call 57; (with_reducible refine CP2.out.mono ?_); rintro e w5 ⟨c', d', rfl, k1, k2, k3, k4⟩; obtain ⟨p8, c8, w8, hrun, HMK, hz2⟩ := LA2.out w5 c' d' k1 k2 k3 k4; have HR := Lib.hid hrun; have hz1 := HZ2.out w5 k4; clear hrun k1 k2 k3 k4)
    | (refine step_append_run (by rfl) (some 16) (by rfl) _ _ _ _ (by rfl) _ _ (by rfl) (by rfl) _ _ HR.out ?_))
  all_goals
    go_wp2
    go_ret
    exact ⟨_, rfl, copy_made HO.out HN.out HMK.out⟩
end Go.Proofs.Ytfemfgpciogbeaa
