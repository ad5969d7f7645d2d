/- The contract of the document's Copy: its region whatever the order. -/
import Derived.Test.YtjhgckaaaonbiaaVg
import Derived.Test.YtjhgckaaaonbiaaUi
import Derived.Lib.AppendZeros
import Derived.Lib.SliceRun
namespace Go.Proofs.Ytjhgckaaaonbiaa
open Go.RowKit

/-- The document's ids behind an empty slice of the call's own. -/
theorem app_b {W : World} {base c d cap : Nat} {v : Value} {F : Po} (ho : W.ownsRow base 78 4 v 0 []) (h : DW W c d F) (hb : base ≤ W.heap.size) :
    ∃ v' W', (Builtin.append_ #[74, 74] 74 #[v, .slice (some ⟨d, 0, none⟩) F.t.n cap]).run Try.prog W = .ok v' W' ∧ W'.ownsRow base 78 4 v' F.t.n (F.dcls F.t.n) ∧ Kept (fun g => v.ownBlock = some g) W W' := by
  obtain ⟨i0, hi, hz0, hz1, hz2⟩ := info_parts info_id
  have hn := h.ok.hi
  obtain ⟨v', W', hrun, hown, hgr, _, _⟩ := run_append_own_at (P := Try.prog) W base 74 74 78 i0 _ 4 16 Try.underlying74 hi hz0 hz1 hz2 rfl (by decide) v 0 [] ho ⟨d, 0, none⟩ F.t.n cap (F.dcls F.t.n) (dcls_len F _) (fun j u hj => by
      have hjl := (List.getElem?_eq_some_iff.1 hj).1
      rw [dcls_len] at hjl
      have e : (⟨d, 0, none⟩ : Addr).add j = ⟨d, j, none⟩ := by unfold Addr.add; split <;> simp_all
      obtain ⟨cap', cur, _, h2, _, _, _, h6⟩ := h.at_
      have hp := dcls_at F F.t.n (j / 4) (by omega) (j % 4) (by omega)
      have hq := h6 (j / 4) (by omega) (j % 4) (by omega)
      rw [show j / 4 * 4 + j % 4 = j by omega] at hp hq
      rw [e, Bk.cell h2, hq, ← hp, hj]) (dcls_one F _) (by unfold maxLen; omega) (by omega) hb
  refine ⟨v', W', hrun, ?_, ⟨hgr.os, hgr.tape, hgr.output, hgr.size, fun k hk hs => hgr.block k hk fun e => hs e.symm⟩⟩
  rwa [Nat.zero_add, List.nil_append] at hown
/-- What a slot holds once its operation has come up. -/
def SpC (c d n cap rm : Nat) (k : Nat) (x : Value) : Prop :=
  match k with | 0 => x = .pointer (some ⟨c, 0, none⟩) | 1 => x = .pointer (some ⟨c, 0, none⟩) | 2 => x = .pointer (some ⟨c, 1, none⟩) | 3 => x = .int .i64 rm | 5 => x = .pointer (some ⟨c, 0, none⟩) | 6 => x = .pointer (some ⟨c, 0, none⟩) | 7 => x = .pointer (some ⟨c, 2, none⟩) | 8 => x = .slice (some ⟨d, 0, none⟩) n cap | _ => True
structure JC (T : Array Value) (w : World) (c d cap : Nat) (F : Po) (f : Nat → Bool) (tm : Array Value) (W : World) : Prop where
  sz : tm.size = T.size
  old : ∀ q, q < 6 → tm[q]? = T[q]?
  val : ∀ k, k < 9 → f k = true → ∃ x, tm[6 + k]? = some x ∧ SpC c d F.t.n cap F.room k x
  bel : Below w.heap.size w W
  r4 : f 4 = true → f 9 = false → ∃ x, tm[10]? = some x ∧ W.ownsRow w.heap.size 78 4 x 0 []
  r9 : f 9 = true → f 10 = false → ∃ x, tm[15]? = some x ∧ W.ownsRow w.heap.size 78 4 x F.t.n (F.dcls F.t.n)
  r10 : f 10 = true → f 11 = false → ∃ x, tm[16]? = some (.agg #[.bool true, .int .i64 F.room, x]) ∧ W.ownsRow w.heap.size 78 4 x F.t.n (F.dcls F.t.n)
  r11 : f 11 = true → ∃ b x, tm[17]? = some (.pointer (some ⟨b, 0, none⟩)) ∧ w.heap.size ≤ b ∧ Bk W b 76 #[.bool true, .int .i64 F.room, x] ∧ W.ownsRow w.heap.size 78 4 x F.t.n (F.dcls F.t.n)
section
variable {T tm : Array Value} {w W W' : World} {v : Value} {c d cap : Nat} {F : Po} {f : Nat → Bool}
theorem JC.vals (h : JC T w c d cap F f tm W) (hT : T.size = 18) {i : Nat} (hi : i < 12) (hs : SpC c d F.t.n cap F.room i v) : ∀ k, k < 9 → more f i k = true → ∃ x, (tm.setIfInBounds (6 + i) v)[6 + k]? = some x ∧ SpC c d F.t.n cap F.room k x := fun k hk hf => by
  rw [Array.getElem?_setIfInBounds]
  by_cases e : k = i
  · subst e
    rw [if_pos rfl, if_pos (by rw [h.sz]; omega)]
    exact ⟨v, rfl, hs⟩
  · rw [if_neg (by omega)]
    refine h.val k hk ?_
    simpa [more, e] using hf
theorem JC.same (h : JC T w c d cap F f tm W) (hT : T.size = 18) {i : Nat} (hi : i < 9) (hs : SpC c d F.t.n cap F.room i v) (h4 : i ≠ 4) : JC T w c d cap F (more f i) (tm.setIfInBounds (6 + i) v) W := by
  refine ⟨by simpa using h.sz, fun q hq => ?_, h.vals hT (by omega) hs, h.bel, fun g1 g2 => ?_, fun g1 g2 => ?_, fun g1 g2 => ?_, fun g1 => ?_⟩
  · rw [Array.getElem?_setIfInBounds, if_neg (by omega)]; exact h.old q hq
  · obtain ⟨x, h1, h2⟩ := h.r4 (by simpa [more, h4.symm] using g1) (by simpa [more, show (9 : Nat) ≠ i by omega] using g2)
    exact ⟨x, by rw [Array.getElem?_setIfInBounds, if_neg (by omega)]; exact h1, h2⟩
  · obtain ⟨x, h1, h2⟩ := h.r9 (by simpa [more, show (9 : Nat) ≠ i by omega] using g1) (by simpa [more, show (10 : Nat) ≠ i by omega] using g2)
    exact ⟨x, by rw [Array.getElem?_setIfInBounds, if_neg (by omega)]; exact h1, h2⟩
  · obtain ⟨x, h1, h2⟩ := h.r10 (by simpa [more, show (10 : Nat) ≠ i by omega] using g1) (by simpa [more, show (11 : Nat) ≠ i by omega] using g2)
    exact ⟨x, by rw [Array.getElem?_setIfInBounds, if_neg (by omega)]; exact h1, h2⟩
  · obtain ⟨b, x, h1, h2⟩ := h.r11 (by simpa [more, show (11 : Nat) ≠ i by omega] using g1)
    exact ⟨b, x, by rw [Array.getElem?_setIfInBounds, if_neg (by omega)]; exact h1, h2⟩
theorem JC.get (h : JC T w c d cap F f tm W) {k : Nat} (hk : k < 9) (hf : f k = true) : ∃ x, tm[6 + k]? = some x ∧ SpC c d F.t.n cap F.room k x := h.val k hk hf
end
set_option maxHeartbeats 4000000 in
set_option maxRecDepth 100000 in
theorem copy_region {id : Nat} {Q : Exit → Act → World → Prop} {T : Array Value} {w : World} {c d : Nat} {F : Po} (hT : T.size = 18) (h0 : T[0]? = some (.pointer (some ⟨c, 0, none⟩))) (h : DW w c d F)
    (hQ : ∀ (tm : Array Value) (b : Nat) (W : World), DNew F w b W → tm[2]? = some (.pointer (some ⟨b, 0, none⟩)) → Q .normal ⟨tm, []⟩ W) :
    (Code.region id #[{ dst := some 6, op := Op.move (Operand.tmp 0), type := 29, pos := "ref.go:128", after := #[], guard := none }, { dst := some 7, op := Op.nilCheck (Operand.tmp 6), type := 0, pos := "ref.go:128", after := #[{ on := 0, ground := Ground.data }], guard := none }, { dst := some 8, op := Op.fieldAddr 76 (Operand.tmp 7) 1, type := 0, pos := "ref.go:128", after := #[{ on := 1, ground := Ground.data }], guard := none }, { dst := some 9, op := Op.load 3 (Operand.tmp 8), type := 3, pos := "ref.go:128", after := #[{ on := 2, ground := Ground.data }], guard := none }, { dst := some 10, op := Op.buildSlice 74 0 #[], type := 74, pos := "ref.go:128", after := #[], guard := none }, { dst := some 11, op := Op.move (Operand.tmp 0), type := 29, pos := "ref.go:128", after := #[], guard := none }, { dst := some 12, op := Op.nilCheck (Operand.tmp 11), type := 0, pos := "ref.go:128", after := #[{ on := 5, ground := Ground.data }], guard := none }, { dst := some 13, op := Op.fieldAddr 76 (Operand.tmp 12) 2, type := 0, pos := "ref.go:128", after := #[{ on := 6, ground := Ground.data }], guard := none }, { dst := some 14, op := Op.load 74 (Operand.tmp 13), type := 74, pos := "ref.go:128", after := #[{ on := 7, ground := Ground.data }], guard := none }, { dst := some 15, op := Op.call { callee := Callee.builtin Builtin.append, args := #[Operand.tmp 10, Operand.tmp 14], argTypes := #[74, 74] }, type := 74, pos := "ref.go:128", after := #[{ on := 4, ground := Ground.data }, { on := 8, ground := Ground.data }], guard := none }, { dst := some 16, op := Op.build 76 #[(0, Operand.const (Value.bool true)), (1, Operand.tmp 9), (2, Operand.tmp 15)], type := 76, pos := "ref.go:128", after := #[{ on := 3, ground := Ground.data }, { on := 9, ground := Ground.data }], guard := none }, { dst := some 17, op := Op.box 76 (Operand.tmp 16), type := 29, pos := "ref.go:128", after := #[{ on := 10, ground := Ground.data }], guard := none }, { dst := some 2, op := Op.assign (Operand.tmp 17), type := 29, pos := "ref.go:128", after := #[{ on := 11, ground := Ground.data }, { on := 9, ground := Ground.chain }, { on := 0, ground := Ground.phase }, { on := 1, ground := Ground.phase }, { on := 2, ground := Ground.phase }, { on := 3, ground := Ground.phase }, { on := 4, ground := Ground.phase }, { on := 5, ground := Ground.phase }, { on := 6, ground := Ground.phase }, { on := 7, ground := Ground.phase }, { on := 8, ground := Ground.phase }, { on := 9, ground := Ground.phase }, { on := 10, ground := Ground.phase }, { on := 11, ground := Ground.phase }], guard := none }] true).wp Try.prog Q ⟨T, []⟩ w := by
  obtain ⟨cap, c0, c1, c2, hc1, hc2⟩ := h.c0
  have hn64 := h.ok.hi
  refine region_last 12 (fun f a W => ∃ tm, a = ⟨tm, []⟩ ∧ JC T w c d cap F f tm W) (by kernel_rfl) rfl ?_ ?_ ?_ ?_ ?_
  · intro i o ho
    rcases i with _ | _ | _ | _ | _ | _ | _ | _ | _ | _ | _ | _ | _ | i
    all_goals simp at ho
    all_goals subst ho
    all_goals simp [Region.binds]
  · intro f hcl hp i hi
    have h1 := hp _ rfl
    simp [Region.binds] at h1
    rcases i with _ | _ | _ | _ | _ | _ | _ | _ | _ | _ | _ | _ | i
    all_goals try simp only [Nat.zero_add, Nat.reduceAdd] at hi ⊢
    all_goals first | omega | simp [h1]
  · exact ⟨T, rfl, rfl, fun _ _ => rfl, (fun k _ h => by cases h), bel_drew (Below.refl _ _), (fun h => by cases h), (fun h => by cases h), (fun h => by cases h), (fun h => by cases h)⟩
  · rintro f a W ⟨tm, rfl, hJ⟩ hcl i o ho hi hfi hpre
    have k0 : tm[0]? = some (.pointer (some ⟨c, 0, none⟩)) := (hJ.old 0 (by omega)).trans h0
    have b1 := cell_keeps hJ.bel c1
    have b2 := cell_keeps hJ.bel c2
    have cl9 := fun h => hcl 9 _ rfl h
    have cl10 := fun h => hcl 10 _ rfl h
    have cl11 := fun h => hcl 11 _ rfl h
    simp [Region.binds] at cl9 cl10 cl11
    clear hcl
    rcases i with _ | _ | _ | _ | _ | _ | _ | _ | _ | _ | _ | _ | i
    rotate_right
    · exfalso; omega
    all_goals try simp only [Nat.zero_add, Nat.reduceAdd] at hfi ho ⊢
    all_goals simp at ho
    all_goals subst ho
    all_goals simp [Region.binds] at hpre
    all_goals clear hi
    · refine wpOp_of rfl rfl ?_
      go_simp
      exact hJ.same (i := 0) hT (by decide) rfl (by decide)
    · obtain ⟨x, e, rfl⟩ := hJ.get (k := 0) (by decide) hpre
      refine wpOp_of rfl rfl ?_
      go_simp
      exact hJ.same (i := 1) hT (by decide) rfl (by decide)
    · obtain ⟨x, e, rfl⟩ := hJ.get (k := 1) (by decide) hpre
      refine wpOp_of rfl rfl ?_
      go_simp
      exact hJ.same (i := 2) hT (by decide) rfl (by decide)
    · obtain ⟨x, e, rfl⟩ := hJ.get (k := 2) (by decide) hpre
      refine wpOp_of rfl rfl ?_
      go_simp
      exact hJ.same (i := 3) hT (by decide) rfl (by decide)
    · refine wpOp_of rfl rfl ?_
      go_simp
      refine ⟨by simpa using hJ.sz, fun p hp => ?_, hJ.vals (i := 4) hT (by decide) trivial, hJ.bel.alloc hJ.bel.size _, fun _ _ => ⟨_, ?_, World.ownsRow_lit W #[] 0 hJ.bel.size (by decide) rfl⟩, fun g1 _ => ?_, fun g1 _ => ?_, fun g1 => ?_⟩
      · rw [Array.getElem?_setIfInBounds, if_neg (by omega)]; exact hJ.old p hp
      · rw [Array.getElem?_setIfInBounds, if_pos rfl, if_pos (by rw [hJ.sz]; omega)]
      · exact absurd (cl9 (by simpa [more] using g1)).1 (by rw [hfi]; decide)
      · exact absurd (cl9 (cl10 (by simpa [more] using g1)).2).1 (by rw [hfi]; decide)
      · exact absurd (cl9 (cl10 (cl11 (by simpa [more] using g1))).2).1 (by rw [hfi]; decide)
    · refine wpOp_of rfl rfl ?_
      go_simp
      exact hJ.same (i := 5) hT (by decide) rfl (by decide)
    · obtain ⟨x, e, rfl⟩ := hJ.get (k := 5) (by decide) hpre
      refine wpOp_of rfl rfl ?_
      go_simp
      exact hJ.same (i := 6) hT (by decide) rfl (by decide)
    · obtain ⟨x, e, rfl⟩ := hJ.get (k := 6) (by decide) hpre
      refine wpOp_of rfl rfl ?_
      go_simp
      exact hJ.same (i := 7) hT (by decide) rfl (by decide)
    · obtain ⟨x, e, rfl⟩ := hJ.get (k := 7) (by decide) hpre
      refine wpOp_of rfl rfl ?_
      go_simp
      exact hJ.same (i := 8) hT (by decide) rfl (by decide)
    · obtain ⟨x8, e8, rfl⟩ := hJ.get (k := 8) (by decide) hpre.2
      obtain ⟨x4, e4, o4⟩ := hJ.r4 hpre.1 hfi
      obtain ⟨v', W', hrun, hown, hk⟩ := app_b (cap := cap) o4 (h.below hJ.bel) hJ.bel.size
      refine wpOp_of rfl rfl (Lib.wp_append_run W _ _ _ _ rfl x4 (.slice (some ⟨d, 0, none⟩) F.t.n cap) (by simp [Act.eval, e4]) (by simp [Act.eval, e8]) _ _ hrun ?_)
      refine ⟨_, rfl, by simpa using hJ.sz, fun p hp => ?_, hJ.vals (i := 9) hT (by decide) trivial, hJ.bel.trans (hk.below hJ.bel.size fun g e => (o4.lt g e).1), fun g1 g2 => ?_, fun _ _ => ⟨_, ?_, hown⟩, fun g1 _ => ?_, fun g1 => ?_⟩
      · rw [Array.getElem?_setIfInBounds, if_neg (by omega)]; exact hJ.old p hp
      · exact absurd g2 (by simp [more])
      · rw [Array.getElem?_setIfInBounds, if_pos rfl, if_pos (by rw [hJ.sz]; omega)]
      · exact absurd (cl10 (by simpa [more] using g1)).2 (by rw [hfi]; decide)
      · exact absurd (cl10 (cl11 (by simpa [more] using g1))).2 (by rw [hfi]; decide)
    · obtain ⟨x3, e3, rfl⟩ := hJ.get (k := 3) (by decide) hpre.1
      obtain ⟨x9, e9, o9⟩ := hJ.r9 hpre.2 hfi
      obtain ⟨p9, c9, rfl⟩ := own_id_form o9
      refine wpOp_of rfl rfl ?_
      go_simp
      refine ⟨by simpa using hJ.sz, fun p hp => ?_, hJ.vals (i := 10) hT (by decide) trivial, hJ.bel, fun g1 g2 => ?_, fun g1 g2 => ?_, fun _ _ => ⟨_, ?_, o9⟩, fun g1 => ?_⟩
      · rw [Array.getElem?_setIfInBounds, if_neg (by omega)]; exact hJ.old p hp
      · exact absurd (show f 9 = false by simpa [more] using g2) (by rw [hpre.2]; decide)
      · exact absurd g2 (by simp [more])
      · rw [Array.getElem?_setIfInBounds, if_pos rfl, if_pos (by rw [hJ.sz]; omega)]
      · exact absurd (cl11 (by simpa [more] using g1)) (by rw [hfi]; decide)
    · obtain ⟨x10, e10, o10⟩ := hJ.r10 hpre hfi
      have hp9 := (cl10 hpre).2
      refine wpOp_of rfl rfl ?_
      go_simp
      refine ⟨by simpa using hJ.sz, fun p hp => ?_, hJ.vals (i := 11) hT (by decide) trivial, hJ.bel.alloc hJ.bel.size _, fun g1 g2 => ?_, fun g1 g2 => ?_, fun g1 g2 => ?_, fun _ => ⟨_, _, ?_, hJ.bel.size, Bk.new W _ _, o10.alloc _⟩⟩
      · rw [Array.getElem?_setIfInBounds, if_neg (by omega)]; exact hJ.old p hp
      · exact absurd (show f 9 = false by simpa [more] using g2) (by rw [hp9]; decide)
      · exact absurd (show f 10 = false by simpa [more] using g2) (by rw [hpre]; decide)
      · exact absurd g2 (by simp [more])
      · rw [Array.getElem?_setIfInBounds, if_pos rfl, if_pos (by rw [hJ.sz]; omega)]
  · rintro f a W ⟨tm, rfl, hJ⟩ hal
    obtain ⟨b, x, e11, hb, hbk, ho⟩ := hJ.r11 (hal 11 (by decide))
    refine wpOp_of rfl rfl ?_
    go_simp
    obtain ⟨d', hd, hD⟩ := dw_of_own h.ok rfl hbk ho
    refine hQ _ b W ⟨d', hD, hb, hd, hJ.bel⟩ ?_
    rw [Array.getElem?_setIfInBounds, if_pos rfl, if_pos (by rw [hJ.sz]; omega)]
theorem dcopy_ok (c d : Nat) (F : Po) (w : World) (h : DW w c d F) : Calls Try.prog 19 #[.pointer (some ⟨c, 0, none⟩)] w fun e w' => ∃ c', e = .returned (.pointer (some ⟨c', 0, none⟩)) ∧ Hid (DNew F w c' w') := by
  have HV := Lib.hid (dvalid_eq c d F w h)
  go_enter Try.func19, Try.ntmps19
  go_wp2_with (go_at_call 30; refine HV.out.mono ?_; rintro e w' ⟨rfl, rfl⟩)
  rename_i K hK
  refine copy_region rfl rfl h ?_
  intro tm b W hN htm
  refine hK _ _ ?_
  go_wp2
  refine bodyPost_ret (v := .pointer (some ⟨b, 0, none⟩)) ?_ rfl ⟨b, rfl, hN⟩
  simp [results, Try.results19, go_sem, Array.getD_eq_getD_getElem?, htm]
end Go.Proofs.Ytjhgckaaaonbiaa
