/- The model's memory, all together; what a call, an append, a new entry and a store make of it. -/
import Derived.Test.YtfnhkapbfgofkaaWo
namespace Go.Proofs.Ytfnhkapbfgofkaa
open Go.RowKit

theorem row_any {w : World} {t : TypeId} {z base n : Nat} {v : Value} {xs : List Value} (h : w.ownsRow base t z v n xs) {g : Nat} (hg : v.ownBlock = some g) : base ≤ g ∧ ∃ cs, Bk w g t cs := by
  rcases h.2 with ⟨rfl, _⟩ | ⟨g', cap, cur, rfl, h1, h2, _⟩
  · cases hg
  · obtain rfl : g' = g := by simpa [Value.ownBlock] using hg
    exact ⟨h1, _, h2⟩
theorem row_kept {S : Nat → Prop} {w w' : World} {t : TypeId} {z base n : Nat} {v : Value} {xs : List Value} (h : w.ownsRow base t z v n xs) (q : Kept S w w') (hs : ∀ g, v.ownBlock = some g → ¬ S g) : w'.ownsRow base t z v n xs :=
  own_same h fun g hg => q.block g (by obtain ⟨_, _, hb⟩ := row_any h hg; exact hb.lt) (hs g hg)
theorem own_ref {w : World} {base n : Nat} {v : Value} {xs : List Value} (h : w.ownsRow base 34 2 v n xs) : ∃ p c, v = .slice p n c := by
  rcases h.2 with ⟨rfl, h0⟩ | ⟨g', cap, cur, rfl, _⟩
  · exact ⟨_, _, by rw [h0]⟩
  · exact ⟨_, _, rfl⟩
/-- The fields' blocks. -/
structure Fd (w0 w : World) (P : Pl) (N : Nat × Nat → Option (List Rf)) (vR vQ : Value) : Prop where
  no : ∀ r, P r = none → N r = none
  yes : ∀ r x l, P r = some (x, l) → ∃ L, N r = some L ∧ L.length = l ∧ Bk w x 34 (rcls L).toArray ∧ w0.heap.size ≤ x ∧ vR.ownBlock ≠ some x ∧ vQ.ownBlock ≠ some x ∧ RgR r.1 r.2
  inj : ∀ r r' x l l', P r = some (x, l) → P r' = some (x, l') → r = r'
structure Mb (w0 w : World) (mb b p t M e : Nat) (H : Hp) (pR : Option Addr) (qR cR : Nat) (R : List (Nat × Nat)) (pQ : Option Addr) (qQ cQ : Nat) (Q : List (Nat × Nat)) (N : Nat × Nat → Option (List Rf)) (P : Pl) : Prop where
  st : HSt w0 w b p t H
  bm : Bk w mb 68 #[.pointer (some ⟨b, 0, none⟩), .map (some M), .slice pR qR cR, .slice pQ qQ cQ]
  lm : w0.heap.size ≤ mb
  mp : MapF w M e P
  lM : w0.heap.size ≤ M
  rR : w.ownsRow w0.heap.size 34 2 (.slice pR qR cR) qR (pairs R)
  lR : R.length = qR
  rQ : w.ownsRow w0.heap.size 34 2 (.slice pQ qQ cQ) qQ (pairs Q)
  lQ : Q.length = qQ
  fd : Fd w0 w P N (.slice pR qR cR) (.slice pQ qQ cQ)
  sQ : ∀ g, (Value.slice pR qR cR).ownBlock = some g → (Value.slice pQ qQ cQ).ownBlock ≠ some g
section
variable {w0 w w' : World} {mb b p t M e : Nat} {H H' : Hp} {pR p2 : Option Addr} {qR cR q2 c2 : Nat} {R R' : List (Nat × Nat)} {pQ : Option Addr} {qQ cQ : Nat} {Q Q' : List (Nat × Nat)} {N N' : Nat × Nat → Option (List Rf)} {P : Pl}
theorem Mb.fM (h : Mb w0 w mb b p t M e H pR qR cR R pQ qQ cQ Q N P) : ¬ HFoot b p t M := by
  obtain ⟨O, hp, _⟩ := h.st.f.at_
  rintro (rfl | rfl | rfl)
  · exact h.mp.no_cells h.st.f.hb
  · exact h.mp.no_cells hp
  · exact h.mp.no_cells h.st.f.tab.bk
theorem Mb.fm (h : Mb w0 w mb b p t M e H pR qR cR R pQ qQ cQ Q N P) : ¬ HFoot b p t mb := h.st.f.box h.bm (by decide) (by decide) (by decide)
theorem Mb.ref (h : Mb w0 w mb b p t M e H pR qR cR R pQ qQ cQ Q N P) {g : Nat} {cs : Array Value} (hg : Bk w g 34 cs) : ¬ HFoot b p t g ∧ g ≠ mb ∧ g ≠ M := by
  refine ⟨h.st.f.box hg (by decide) (by decide) (by decide), ?_, ?_⟩
  · rintro rfl; exact absurd (hg.uniq h.bm).1 (by decide)
  · rintro rfl; exact h.mp.no_cells hg
theorem Mb.mM (h : Mb w0 w mb b p t M e H pR qR cR R pQ qQ cQ Q N P) : M ≠ mb := by rintro rfl; exact h.mp.no_cells h.bm
theorem Fd.kept {S : Nat → Prop} {vR vQ : Value} (h : Fd w0 w P N vR vQ) (d : Kept S w w') (hs : ∀ r x l, P r = some (x, l) → ¬ S x) : Fd w0 w' P N vR vQ :=
  ⟨h.no, fun r x l hx => by
    obtain ⟨L, h1, h2, h3, h4⟩ := h.yes r x l hx
    exact ⟨L, h1, h2, h3.kept d (hs r x l hx), h4⟩, h.inj⟩
theorem Mb.any (h : Mb w0 w mb b p t M e H pR qR cR R pQ qQ cQ Q N P) {S : Nat → Prop} (d : Kept S w w') (st : HSt w0 w' b p t H') (h1 : ¬ S mb) (h2 : ¬ S M) (h3 : ∀ g cs, Bk w g 34 cs → ¬ S g) : Mb w0 w' mb b p t M e H' pR qR cR R pQ qQ cQ Q N P :=
  ⟨st, h.bm.kept d h1, h.lm, h.mp.kept d h2, h.lM, row_kept h.rR d fun g hg => by obtain ⟨_, _, hb⟩ := row_any h.rR hg; exact h3 g _ hb, h.lR,
    row_kept h.rQ d fun g hg => by obtain ⟨_, _, hb⟩ := row_any h.rQ hg; exact h3 g _ hb, h.lQ, h.fd.kept d fun r x l hx => by obtain ⟨_, _, _, hb, _⟩ := h.fd.yes r x l hx; exact h3 x _ hb, h.sQ⟩
theorem Mb.quiet (h : Mb w0 w mb b p t M e H pR qR cR R pQ qQ cQ Q N P) (d : Below w.heap.size w w') : Mb w0 w' mb b p t M e H pR qR cR R pQ qQ cQ Q N P :=
  h.any (Kept.of_below (S := fun _ => False) d) (h.st.quiet d) (fun e => e) (fun e => e) (fun _ _ _ e => e)
theorem Mb.heap (h : Mb w0 w mb b p t M e H pR qR cR R pQ qQ cQ Q N P) (d : Kept (HFoot b p t) w w') (st : HSt w0 w' b p t H') : Mb w0 w' mb b p t M e H' pR qR cR R pQ qQ cQ Q N P :=
  h.any d st h.fm h.fM fun _ _ hb => (h.ref hb).1
/-- The row of the names that are there has become another one. -/
theorem Mb.rowR (h : Mb w0 w mb b p t M e H pR qR cR R pQ qQ cQ Q N P) (d : Kept (fun g => (Value.slice pR qR cR).ownBlock = some g) w w') (hl : R'.length = q2) (hr : w'.ownsRow w0.heap.size 34 2 (.slice p2 q2 c2) q2 (pairs R')) (hf : (Value.slice p2 q2 c2).ownBlock = (Value.slice pR qR cR).ownBlock ∨ ∀ g, (Value.slice p2 q2 c2).ownBlock = some g → w.heap.size ≤ g) :
    Mb w0 (w'.setCell ⟨mb, 2, none⟩ (.slice p2 q2 c2)) mb b p t M e H p2 q2 c2 R' pQ qQ cQ Q N P := by
  have hR : ∀ g, (Value.slice pR qR cR).ownBlock = some g → w0.heap.size ≤ g ∧ ∃ cs, Bk w g 34 cs := fun g hg => row_any h.rR hg
  have n1 : ¬ (Value.slice pR qR cR).ownBlock = some mb := fun e => by obtain ⟨_, _, hb⟩ := hR _ e; exact (h.ref hb).2.1 rfl
  have n2 : ¬ (Value.slice pR qR cR).ownBlock = some M := fun e => by obtain ⟨_, _, hb⟩ := hR _ e; exact (h.ref hb).2.2 rfl
  have m1 := h.bm.kept d n1
  have k2 : Kept (· = mb) w' (w'.setCell ⟨mb, 2, none⟩ (.slice p2 q2 c2)) := (Kept.refl _ w').put1 2 _
  have hmM := h.mM
  have s1 : HSt w0 w' b p t H := ⟨h.st.f.kept d fun g hg e => by obtain ⟨_, _, hb⟩ := hR g e; exact (h.ref hb).1 hg, h.st.bel.trans (d.below h.st.bel.size fun g e => (hR g e).1), h.st.lo⟩
  have hm2 : ∀ g, (Value.slice p2 q2 c2).ownBlock = some g → g ≠ mb := fun g hg e => by
    obtain ⟨_, _, hb⟩ := row_any hr hg
    subst e
    exact absurd (hb.uniq m1).1 (by decide)
  have f1 : Fd w0 w' P N (.slice pR qR cR) (.slice pQ qQ cQ) := h.fd.kept d fun r x l hx e => by obtain ⟨_, _, _, _, _, h5, _⟩ := h.fd.yes r x l hx; exact h5 e
  have rq := row_kept h.rQ d fun g hg e => h.sQ g e hg
  refine ⟨⟨s1.f.kept k2 fun g hg e => ?_, s1.bel.trans (k2.below s1.bel.size fun g e => by rw [e]; exact h.lm), s1.lo⟩, m1.put 2 _, h.lm, (h.mp.kept d n2).kept k2 hmM, h.lM, row_kept hr k2 fun g hg e => hm2 g hg e, hl, row_kept rq k2 fun g hg e => ?_, h.lQ, ⟨f1.no, fun r x l hx => ?_, f1.inj⟩, fun g hg e => ?_⟩
  · subst e; exact h.fm hg
  · obtain ⟨_, _, hb⟩ := row_any h.rQ hg; exact (h.ref hb).2.1 e
  · obtain ⟨L, g1, g2, g3, g4, g5, g6, g7⟩ := f1.yes r x l hx
    have hbw := (h.fd.yes r x l hx).choose_spec.2.2.1
    refine ⟨L, g1, g2, g3.kept k2 (h.ref hbw).2.1, g4, fun e => ?_, g6, g7⟩
    rcases hf with e2 | e2
    · rw [e2] at e; exact g5 e
    · have := e2 x e; have := hbw.lt; omega
  · rcases hf with e2 | e2
    · rw [e2] at hg; exact h.sQ g hg e
    · have h1 := e2 g hg
      obtain ⟨_, _, hb⟩ := row_any h.rQ e
      have := hb.lt; omega
/-- The row of the names that are gone has become another one. -/
theorem Mb.rowQ (h : Mb w0 w mb b p t M e H pR qR cR R pQ qQ cQ Q N P) (d : Kept (fun g => (Value.slice pQ qQ cQ).ownBlock = some g) w w') (hl : Q'.length = q2) (hr : w'.ownsRow w0.heap.size 34 2 (.slice p2 q2 c2) q2 (pairs Q')) (hf : (Value.slice p2 q2 c2).ownBlock = (Value.slice pQ qQ cQ).ownBlock ∨ ∀ g, (Value.slice p2 q2 c2).ownBlock = some g → w.heap.size ≤ g) :
    Mb w0 (w'.setCell ⟨mb, 3, none⟩ (.slice p2 q2 c2)) mb b p t M e H pR qR cR R p2 q2 c2 Q' N P := by
  have hQ : ∀ g, (Value.slice pQ qQ cQ).ownBlock = some g → w0.heap.size ≤ g ∧ ∃ cs, Bk w g 34 cs := fun g hg => row_any h.rQ hg
  have n1 : ¬ (Value.slice pQ qQ cQ).ownBlock = some mb := fun e => by obtain ⟨_, _, hb⟩ := hQ _ e; exact (h.ref hb).2.1 rfl
  have n2 : ¬ (Value.slice pQ qQ cQ).ownBlock = some M := fun e => by obtain ⟨_, _, hb⟩ := hQ _ e; exact (h.ref hb).2.2 rfl
  have m1 := h.bm.kept d n1
  have k2 : Kept (· = mb) w' (w'.setCell ⟨mb, 3, none⟩ (.slice p2 q2 c2)) := (Kept.refl _ w').put1 3 _
  have hmM := h.mM
  have s1 : HSt w0 w' b p t H := ⟨h.st.f.kept d fun g hg e => by obtain ⟨_, _, hb⟩ := hQ g e; exact (h.ref hb).1 hg, h.st.bel.trans (d.below h.st.bel.size fun g e => (hQ g e).1), h.st.lo⟩
  have hm2 : ∀ g, (Value.slice p2 q2 c2).ownBlock = some g → g ≠ mb := fun g hg e => by
    obtain ⟨_, _, hb⟩ := row_any hr hg
    subst e
    exact absurd (hb.uniq m1).1 (by decide)
  have f1 : Fd w0 w' P N (.slice pR qR cR) (.slice pQ qQ cQ) := h.fd.kept d fun r x l hx e => by obtain ⟨_, _, _, _, _, _, h6, _⟩ := h.fd.yes r x l hx; exact h6 e
  have rr := row_kept h.rR d fun g hg e => h.sQ g hg e
  refine ⟨⟨s1.f.kept k2 fun g hg e => ?_, s1.bel.trans (k2.below s1.bel.size fun g e => by rw [e]; exact h.lm), s1.lo⟩, m1.put 3 _, h.lm, (h.mp.kept d n2).kept k2 hmM, h.lM, row_kept rr k2 fun g hg e => ?_, h.lR, row_kept hr k2 fun g hg e => hm2 g hg e, hl, ⟨f1.no, fun r x l hx => ?_, f1.inj⟩, fun g hg e => ?_⟩
  · subst e; exact h.fm hg
  · obtain ⟨_, _, hb⟩ := row_any h.rR hg; exact (h.ref hb).2.1 e
  · obtain ⟨L, g1, g2, g3, g4, g5, g6, g7⟩ := f1.yes r x l hx
    have hbw := (h.fd.yes r x l hx).choose_spec.2.2.1
    refine ⟨L, g1, g2, g3.kept k2 (h.ref hbw).2.1, g4, g5, fun e => ?_, g7⟩
    rcases hf with e2 | e2
    · rw [e2] at e; exact g6 e
    · have := e2 x e; have := hbw.lt; omega
  · rcases hf with e2 | e2
    · rw [e2] at e; exact h.sQ g hg e
    · have h1 := e2 g e
      obtain ⟨_, _, hb⟩ := row_any h.rR hg
      have := hb.lt; omega
/-- A name has got fields, in a new block. -/
theorem Mb.mapS (h : Mb w0 w mb b p t M e H pR qR cR R pQ qQ cQ Q N P) {x e' : Nat} {L : List Rf} {r : Nat × Nat} (hx : w.heap.size = x) {w1 : World} (hw1 : Below w.heap.size w w1) (hb : Bk w1 x 34 (rcls L).toArray) (d : Kept (· = M) w1 w') (hm : MapF w' M e' (setP P r x L.length)) (hg : RgR r.1 r.2) : Mb w0 w' mb b p t M e' H pR qR cR R pQ qQ cQ Q (setN N r L) (setP P r x L.length) := by
  have h1 := h.quiet hw1
  have hlM := h.mp.lt
  have hbx : Bk w' x 34 (rcls L).toArray := hb.kept d (by omega)
  have hRx : ∀ v : Value, (∀ g, v.ownBlock = some g → g < w.heap.size) → v.ownBlock ≠ some x := fun v hv e => by have := hv x e; omega
  have q1 : ∀ g, (Value.slice pR qR cR).ownBlock = some g → g < w.heap.size := fun g hg => by obtain ⟨_, _, hb⟩ := row_any h.rR hg; exact hb.lt
  have q2 : ∀ g, (Value.slice pQ qQ cQ).ownBlock = some g → g < w.heap.size := fun g hg => by obtain ⟨_, _, hb⟩ := row_any h.rQ hg; exact hb.lt
  have hm1 := h1.mM
  refine ⟨⟨h1.st.f.kept d fun g hg e => ?_, h1.st.bel.trans (d.below h1.st.bel.size fun g e => by rw [e]; exact h.lM), h1.st.lo⟩, h1.bm.kept d fun e => hm1 e.symm, h.lm, hm, h.lM, row_kept h1.rR d fun g hg e => ?_, h.lR, row_kept h1.rQ d fun g hg e => ?_, h.lQ, ⟨fun y hy => ?_, fun y x' l hy => ?_, fun y y' x' l l' hy hy' => ?_⟩, h.sQ⟩
  · subst e; exact h1.fM hg
  · obtain ⟨_, _, hb⟩ := row_any h1.rR hg; exact (h1.ref hb).2.2 e
  · obtain ⟨_, _, hb⟩ := row_any h1.rQ hg; exact (h1.ref hb).2.2 e
  · unfold setP at hy
    split at hy
    · cases hy
    · rename_i c; rw [setN_other c]; exact h.fd.no y hy
  · unfold setP at hy
    split at hy
    · rename_i c
      obtain ⟨rfl, rfl⟩ := Prod.mk.inj (Option.some.inj hy)
      subst c
      refine ⟨L, setN_same _ _ _, rfl, hbx, by rw [← hx]; exact h.st.bel.size, hRx _ q1, hRx _ q2, hg⟩
    · rename_i c
      rw [setN_other c]
      obtain ⟨L', g1, g2, g3, g4⟩ := h1.fd.yes y x' l hy
      exact ⟨L', g1, g2, g3.kept d (h1.ref g3).2.2, g4⟩
  · have old : ∀ y l, P y = some (x, l) → False := fun y l hy => by
      obtain ⟨_, _, _, hb', _⟩ := h.fd.yes y x l hy
      have := hb'.lt; omega
    unfold setP at hy hy'
    split at hy
    · rename_i c
      split at hy'
      · rename_i c'; rw [c, c']
      · obtain ⟨rfl, _⟩ := Prod.mk.inj (Option.some.inj hy)
        exact (old _ _ hy').elim
    · split at hy'
      · obtain ⟨rfl, _⟩ := Prod.mk.inj (Option.some.inj hy')
        exact (old _ _ hy).elim
      · exact h.fd.inj y y' x' l l' hy hy'
theorem rcls_put {L : List Rf} {j : Nat} (_ : j < L.length) (v : Rf) : ((rcls L).toArray.setIfInBounds (j * 2) (.int .i64 v.1)).setIfInBounds (j * 2 + 1) (.int .u32 v.2) = (rcls (L.set j v)).toArray := by
  have hs : (rcls L).toArray.size = L.length * 2 := by rw [List.size_toArray, rcls_length]
  refine Array.ext_getElem? fun i => ?_
  by_cases hi : i < L.length * 2
  · obtain ⟨a, q, hq, ha, rfl⟩ : ∃ a q, q < 2 ∧ a < L.length ∧ i = a * 2 + q := ⟨i / 2, i % 2, by omega, by omega, by omega⟩
    have ha2 : a < (L.set j v).length := by rw [List.length_set]; exact ha
    have e1 : (rcls (L.set j v)).toArray[a * 2 + q]? = (rcl ((L.set j v)[a]))[q]? := by rw [List.getElem?_toArray]; exact rcls_at _ a ha2 q hq
    have e2 : (rcls L).toArray[a * 2 + q]? = (rcl (L[a]))[q]? := by rw [List.getElem?_toArray]; exact rcls_at _ a ha q hq
    rw [e1, List.getElem_set, Array.getElem?_setIfInBounds, Array.getElem?_setIfInBounds, e2]
    by_cases c : j = a
    · subst c
      rw [if_pos rfl]
      match q, hq with
      | 0, _ =>
        rw [if_neg (by omega), if_pos (by omega), if_pos (by rw [hs]; omega)]; rfl
      | 1, _ =>
        rw [if_pos (by omega), if_pos (by rw [Array.size_setIfInBounds, hs]; omega)]; rfl
    · rw [if_neg c, if_neg (by omega), if_neg (by omega)]
  · rw [Array.getElem?_eq_none (by rw [Array.size_setIfInBounds, Array.size_setIfInBounds, hs]; omega), Array.getElem?_eq_none (by rw [List.size_toArray, rcls_length, List.length_set]; omega)]
/-- A field has got another value. -/
theorem Mb.fld (h : Mb w0 w mb b p t M e H pR qR cR R pQ qQ cQ Q N P) {r : Nat × Nat} {x l j : Nat} {L : List Rf} (hP : P r = some (x, l)) (hN : N r = some L) (hj : j < L.length) (v : Rf) : Mb w0 ((w.setCell ⟨x, j * 2, none⟩ (.int .i64 v.1)).setCell ⟨x, j * 2 + 1, none⟩ (.int .u32 v.2)) mb b p t M e H pR qR cR R pQ qQ cQ Q (setN N r (L.set j v)) P := by
  obtain ⟨L', g1, g2, g3, g4, g5, g6, g7⟩ := h.fd.yes r x l hP
  obtain rfl : L' = L := by rw [hN] at g1; exact (Option.some.inj g1).symm
  have d : Kept (· = x) w ((w.setCell ⟨x, j * 2, none⟩ (.int .i64 v.1)).setCell ⟨x, j * 2 + 1, none⟩ (.int .u32 v.2)) := ((Kept.refl _ w).put1 _ _).put1 _ _
  have hb := (g3.put (j * 2) (.int .i64 v.1)).put (j * 2 + 1) (.int .u32 v.2)
  rw [rcls_put hj] at hb
  obtain ⟨a1, a2, a3⟩ := h.ref g3
  refine ⟨⟨h.st.f.kept d fun g hg e => ?_, h.st.bel.trans (d.below h.st.bel.size fun g e => by rw [e]; exact g4), h.st.lo⟩, h.bm.kept d fun e => a2 e.symm, h.lm, h.mp.kept d fun e => a3 e.symm, h.lM, row_kept h.rR d fun g hg e => ?_, h.lR, row_kept h.rQ d fun g hg e => ?_, h.lQ, ⟨fun y hy => ?_, fun y x' l' hy => ?_, h.fd.inj⟩, h.sQ⟩
  · subst e; exact a1 hg
  · subst e; exact g5 hg
  · subst e; exact g6 hg
  · have c : y ≠ r := fun e => by rw [e, hP] at hy; cases hy
    rw [setN_other c]; exact h.fd.no y hy
  · by_cases c : y = r
    · subst c
      rw [hP] at hy
      obtain ⟨rfl, rfl⟩ := Prod.mk.inj (Option.some.inj hy)
      exact ⟨_, setN_same _ _ _, by rw [List.length_set]; exact g2, hb, g4, g5, g6, g7⟩
    · rw [setN_other c]
      obtain ⟨L2, k1, k2, k3, k4⟩ := h.fd.yes y x' l' hy
      exact ⟨L2, k1, k2, k3.kept d fun e => c (by subst e; exact h.fd.inj y r x' l' l hy hP), k4⟩
end
end Go.Proofs.Ytfnhkapbfgofkaa
