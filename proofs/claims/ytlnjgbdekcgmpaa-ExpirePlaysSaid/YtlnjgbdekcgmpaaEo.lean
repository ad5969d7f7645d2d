/- The program's queue and the document's side by side, with the box of a step. -/
import Derived.Test.YtlnjgbdekcgmpaaEq
import Derived.Test.YtlnjgbdekcgmpaaEw
namespace Go.Proofs.Ytlnjgbdekcgmpaa
open Go.RowKit

structure Px (F : Nat → Prop) (v : Value) (w0 w : World) (b r : Nat) (L M : List En) (X : Nat) (cs : Array Value) : Prop where
  q : Q w b F L
  rq : RqW w r v M
  srt : Srt M
  nod : Nod M
  bel : Below w0.heap.size w0 w
  f1 : ∀ g, F g → w0.heap.size ≤ g ∧ ¬ RFoot r v g ∧ g ≠ X
  f2 : ∀ g, RFoot r v g → w0.heap.size ≤ g ∧ g ≠ X
  box : Bk w X 29 cs
/-- The program's queue (block b) holds L, the document's (block r) M; block X is the box of a step. -/
def PX (w0 w : World) (b r : Nat) (L M : List En) (X : Nat) (cs : Array Value) : Prop := ∃ F v, Px F v w0 w b r L M X cs
/-- The same without a box. -/
def PP (w0 w : World) (b r : Nat) (L : List En) : Prop := ∃ F v, Q w b F L ∧ RqW w r v L ∧ Below w0.heap.size w0 w ∧ (∀ g, F g → w0.heap.size ≤ g ∧ ¬ RFoot r v g) ∧ ∀ g, RFoot r v g → w0.heap.size ≤ g
section
variable {F : Nat → Prop} {v : Value} {w0 w w' : World} {b r : Nat} {L M L' M' : List En} {X : Nat} {cs : Array Value}
theorem Px.stp (h : Px F v w0 w b r L M X cs) (s : Stp w b F L' w') : PX w0 w' b r L' M X cs := by
  obtain ⟨F', h1, h2, h3⟩ := s
  refine ⟨F', v, h1, h.rq.kept h2 fun g hg hf => (h.f1 g hf).2.1 hg, h.srt, h.nod, h.bel.trans (h2.below h.bel.size fun g hg => (h.f1 g hg).1), fun g hg => ?_, h.f2, h.box.kept h2 fun e => (h.f1 X e).2.2 rfl⟩
  rcases h3 g hg with e | e
  · exact h.f1 g e
  · refine ⟨Nat.le_trans h.bel.size e, fun k => ?_, fun k => ?_⟩
    · have := h.rq.foot_lt k; omega
    · have := h.box.lt; omega
theorem Px.rpost (h : Px F v w0 w b r L M X cs) (p : RPost r v M' w w') (hs : Srt M') (hn : Nod M') : PX w0 w' b r L M' X cs ∧ Kept (· = r) w w' := by
  obtain ⟨v', h1, h2, h3⟩ := p
  refine ⟨⟨F, v', h.q.kept h2 fun g hg e => (h.f1 g hg).2.1 (.inl e), h1, hs, hn, h.bel.trans (h2.below h.bel.size fun g e => by rw [e]; exact (h.f2 r (.inl rfl)).1), fun g hg => ?_, fun g hg => ?_, h.box.kept h2 fun e => (h.f2 r (.inl rfl)).2 e.symm⟩, h2⟩
  · obtain ⟨k1, k2, k3⟩ := h.f1 g hg
    refine ⟨k1, ?_, k3⟩
    rintro (e | e)
    · exact k2 (.inl e)
    · rcases h3 g e with e | e
      · exact k2 (.inr e)
      · have := h.q.lt hg; omega
  · rcases hg with e | e
    · exact h.f2 g (.inl e)
    · rcases h3 g e with e | e
      · exact h.f2 g (.inr e)
      · exact ⟨Nat.le_trans h.bel.size e, fun k => by have := h.box.lt; omega⟩
theorem PX.quiet (h : PX w0 w b r L M X cs) (k : Below w.heap.size w w') : PX w0 w' b r L M X cs := by
  obtain ⟨F, v, h⟩ := h
  exact ⟨F, v, h.q.below k, h.rq.below k, h.srt, h.nod, h.bel.trans (k.mono h.bel.size), h.f1, h.f2, h.box.below k⟩
theorem PX.drew (h : PX w0 w b r L M X cs) : PX w0 w.drew b r L M X cs := h.quiet (bel_drew (Below.refl _ _))
theorem PX.bel (h : PX w0 w b r L M X cs) : Below w0.heap.size w0 w := by obtain ⟨F, v, h⟩ := h; exact h.bel
theorem PX.cell (h : PX w0 w b r L M X cs) (i : Nat) : w.cell? ⟨X, i, none⟩ = cs[i]? := by obtain ⟨F, v, h⟩ := h; exact h.box.cell i
theorem PP.bel (h : PP w0 w b r L) : Below w0.heap.size w0 w := by obtain ⟨F, v, _, _, h, _⟩ := h; exact h
theorem PP.srt (h : PP w0 w b r L) : Srt L := by obtain ⟨F, v, h, _⟩ := h; exact h.srt
theorem PP.nod (h : PP w0 w b r L) : Nod L := by obtain ⟨F, v, h, _⟩ := h; exact h.nod
theorem PP.len (h : PP w0 w b r L) : L.length ≤ 256 := by obtain ⟨F, v, h, _⟩ := h; exact h.len
theorem PP.box (h : PP w0 w b r L) (cs : Array Value) : PX w0 (w.alloc (.cells cs 29)) b r L L w.heap.size cs := by
  obtain ⟨F, v, h1, h2, h3, h4, h5⟩ := h
  have k : Below w.heap.size w (w.alloc (.cells cs 29)) := (Below.refl _ _).alloc (Nat.le_refl _) _
  exact ⟨F, v, h1.below k, h2.below k, h1.srt, h1.nod, h3.trans (k.mono h3.size), fun g hg => ⟨(h4 g hg).1, (h4 g hg).2, by have := h1.lt hg; omega⟩, fun g hg => ⟨h5 g hg, by have := h2.foot_lt hg; omega⟩, Bk.new _ _ _⟩
theorem PX.un (h : PX w0 w b r L L X cs) : PP w0 w b r L := by
  obtain ⟨F, v, h⟩ := h
  exact ⟨F, v, h.q, h.rq, h.bel, fun g hg => ⟨(h.f1 g hg).1, (h.f1 g hg).2.1⟩, fun g hg => (h.f2 g hg).1⟩

theorem srt_setL {i t : Int} (h : Srt L) : Srt (setL L i t) := by unfold setL; split; exact h.set i t; exact h
theorem nod_setL {i t : Int} (h : Nod L) : Nod (setL L i t) := by unfold setL; split; exact h.set i t; exact h

theorem p_set (h : PX w0 w b r L M X cs) {i : Int} (hi : I64 i) (t : Int) : Calls Try.prog 14 #[.pointer (some ⟨b, 0, none⟩), .int .i64 i, .int .i64 t] w fun e w' => e = .returned (.int .i64 (setE L i t)) ∧ PX w0 w' b r (setL L i t) M X cs := by
  obtain ⟨F, v, h⟩ := h
  exact (q_set h.q hi t).mono fun e w' ⟨he, hs⟩ => ⟨he, h.stp hs⟩
theorem r_set (h : PX w0 w b r L M X cs) {i : Int} (hi : I64 i) (t : Int) : Calls Try.prog 15 #[.pointer (some ⟨r, 0, none⟩), .int .i64 i, .int .i64 t] w fun e w' => e = .returned (.int .i64 (setE M i t)) ∧ PX w0 w' b r L (setL M i t) X cs := by
  obtain ⟨F, v, h⟩ := h
  exact (rset_ok r v M i t w h.srt h.nod hi h.rq).mono fun e w' ⟨he, hp⟩ => ⟨he, (h.rpost hp (srt_setL h.srt) (nod_setL h.nod)).1⟩
theorem p_drop (h : PX w0 w b r L M X cs) {i : Int} (hi : I64 i) : Calls Try.prog 16 #[.pointer (some ⟨b, 0, none⟩), .int .i64 i] w fun e w' => e = .returned (.bool (tm L i).isSome) ∧ PX w0 w' b r (del L i) M X cs := by
  obtain ⟨F, v, h⟩ := h
  exact (q_drop h.q hi).mono fun e w' ⟨he, hs⟩ => ⟨he, h.stp hs⟩
theorem r_drop (h : PX w0 w b r L M X cs) (i : Int) : Calls Try.prog 17 #[.pointer (some ⟨r, 0, none⟩), .int .i64 i] w fun e w' => e = .returned (.bool (tm M i).isSome) ∧ PX w0 w' b r L (del M i) X cs := by
  obtain ⟨F, v, h⟩ := h
  exact (rdrop_ok r v M i w h.srt h.nod h.rq).mono fun e w' ⟨he, hp⟩ => ⟨he, (h.rpost hp (h.srt.del i) (h.nod.del i)).1⟩
theorem p_when (h : PX w0 w b r L M X cs) {i : Int} (hi : I64 i) : Calls Try.prog 25 #[.pointer (some ⟨b, 0, none⟩), .int .i64 i] w fun e w' => e = .returned (.tuple #[.int .i64 ((tm L i).getD 0), .bool (tm L i).isSome]) ∧ w = w' := by
  obtain ⟨F, v, h⟩ := h; exact q_when h.q hi
theorem r_when (h : PX w0 w b r L M X cs) (i : Int) : Calls Try.prog 26 #[.pointer (some ⟨r, 0, none⟩), .int .i64 i] w fun e w' => e = .returned (.tuple #[.int .i64 ((tm M i).getD 0), .bool (tm M i).isSome]) ∧ w = w' := by
  obtain ⟨F, v, h⟩ := h; exact rwhen_ok r v M i w h.rq
theorem p_len (h : PX w0 w b r L M X cs) : Calls Try.prog 27 #[.pointer (some ⟨b, 0, none⟩)] w fun e w' => e = .returned (.int .i64 L.length) ∧ w = w' := by
  obtain ⟨F, v, h⟩ := h; exact q_len h.q
theorem r_len (h : PX w0 w b r L M X cs) : Calls Try.prog 28 #[.pointer (some ⟨r, 0, none⟩)] w fun e w' => e = .returned (.int .i64 M.length) ∧ w = w' := by
  obtain ⟨F, v, h⟩ := h; exact rlen_ok r v M w h.rq
theorem p_next (h : PX w0 w b r L M X cs) : Calls Try.prog 23 #[.pointer (some ⟨b, 0, none⟩)] w fun e w' => e = .returned (.tuple #[.int .i64 (L.headD (0, 0)).1, .int .i64 (L.headD (0, 0)).2, .bool !L.isEmpty]) ∧ PX w0 w' b r L M X cs := by
  obtain ⟨F, v, h⟩ := h
  exact (q_next h.q).mono fun e w' ⟨he, hb⟩ => ⟨he, PX.quiet ⟨F, v, h⟩ hb⟩
theorem r_next (h : PX w0 w b r L M X cs) : Calls Try.prog 24 #[.pointer (some ⟨r, 0, none⟩)] w fun e w' => e = .returned (.tuple #[.int .i64 (M.headD (0, 0)).1, .int .i64 (M.headD (0, 0)).2, .bool !M.isEmpty]) ∧ PX w0 w' b r L M X cs := by
  obtain ⟨F, v, h⟩ := h
  exact (rnext_ok r v M w h.rq).mono fun e w' ⟨he, hb⟩ => ⟨he, PX.quiet ⟨F, v, h⟩ hb⟩
theorem rd_slice {w : World} {u : Value} {l : List Int} (h : Rd w u l) : ∃ a c, u = .slice a l.length c := by
  obtain ⟨a, c, e, _⟩ := h.len
  exact ⟨a, c, e⟩
theorem p_due (h : PX w0 w b r L M X cs) (now : Int) : Calls Try.prog 19 #[.pointer (some ⟨b, 0, none⟩), .int .i64 now] w fun e w' => ∃ a c, e = .returned (.slice a (due L now).length c) ∧ PX w0 w' b r (rest L now) M X cs ∧ Rd w' (.slice a (due L now).length c) (ids (due L now)) ∧ (∀ g, (Value.slice a (due L now).length c).ownBlock = some g → g ≠ r) := by
  obtain ⟨F, v, h⟩ := h
  refine (q_due h.q now).mono ?_
  rintro e w' ⟨u, F', rfl, k1, k2, k3, k4, _⟩
  have hr := h.rq.hb.lt
  have hlt := fun g hg => (k4.lt g hg).1
  rw [show (due L now).length = (ids (due L now)).length from (ids_length _).symm] at k4
  obtain ⟨a, c, rfl, hc1, hc2, hrd⟩ := (Rd.of_own k4).len
  rw [ids_length] at hrd hlt
  exact ⟨a, c, by rw [ids_length], h.stp ⟨F', k1, k2, k3⟩, hrd, fun g hg e => by have := hlt g hg; omega⟩
theorem r_due (h : PX w0 w b r L M X cs) (now : Int) : Calls Try.prog 20 #[.pointer (some ⟨r, 0, none⟩), .int .i64 now] w fun e w' => ∃ a c, e = .returned (.slice a (due M now).length c) ∧ PX w0 w' b r L (rest M now) X cs ∧ Rd w' (.slice a (due M now).length c) (ids (due M now)) ∧ Kept (· = r) w w' := by
  obtain ⟨F, v, h⟩ := h
  refine (rdue_ok r v M now w h.srt h.rq).mono ?_
  rintro e w' ⟨a, c, rfl, k1, _, _, hp⟩
  obtain ⟨h1, h2⟩ := h.rpost hp (h.srt.rest now) (h.nod.rest now)
  exact ⟨a, c, rfl, h1, k1, h2⟩
theorem due_length_le (L : List En) (now : Int) : (due L now).length ≤ L.length := List.length_filter_le _ _
/-- Both copied: the program's first. -/
theorem p_copy (h : PX w0 w b r L M X cs) : Calls Try.prog 21 #[.pointer (some ⟨b, 0, none⟩)] w fun e w' => ∃ b', e = .returned (.pointer (some ⟨b', 0, none⟩)) ∧ PX w0 w' b' r L M X cs := by
  obtain ⟨F, v, h⟩ := h
  obtain ⟨k, m, u, h1, h2⟩ := id h.q
  refine (copy_ok b k m u L w h1).mono ?_
  rintro e w' ⟨b', F', rfl, k1, k2, k3⟩
  exact ⟨b', rfl, F', v, k1, h.rq.below k3, h.srt, h.nod, h.bel.trans (k3.mono h.bel.size), fun g hg => ⟨Nat.le_trans h.bel.size (k2 g hg), fun e => by have := h.rq.foot_lt e; have := k2 g hg; omega, by have := k2 g hg; have := h.box.lt; omega⟩, h.f2, h.box.below k3⟩
theorem r_copy (h : PX w0 w b r L M X cs) : Calls Try.prog 22 #[.pointer (some ⟨r, 0, none⟩)] w fun e w' => ∃ r', e = .returned (.pointer (some ⟨r', 0, none⟩)) ∧ PX w0 w' b r' L M X cs := by
  obtain ⟨F, v, h⟩ := h
  refine (rcopy_ok r v M w h.rq).mono ?_
  rintro e w' ⟨r', v', rfl, k1, k2, k3, k4⟩
  have hg' : ∀ g, RFoot r' v' g → w.heap.size ≤ g := by
    rintro g (rfl | e)
    · exact k2
    · exact k3 g e
  exact ⟨r', rfl, F, v', h.q.below k4, k1, h.srt, h.nod, h.bel.trans (k4.mono h.bel.size), fun g hg => ⟨(h.f1 g hg).1, fun e => by have := hg' g e; have := h.q.lt hg; omega, (h.f1 g hg).2.2⟩, fun g hg => ⟨Nat.le_trans h.bel.size (hg' g hg), by have := hg' g hg; have := h.box.lt; omega⟩, h.box.below k4⟩
end
/-- At the end: both give all that is due. -/
def EndP (w0 : World) (r : Nat) (L : List En) (now : Int) (a : Option Addr) (c : Nat) (w : World) : Prop := ∃ v, RqW w r v L ∧ w0.heap.size ≤ r ∧ Below w0.heap.size w0 w ∧ Rd w (.slice a (due L now).length c) (ids (due L now)) ∧ ∀ g, (Value.slice a (due L now).length c).ownBlock = some g → g ≠ r
theorem pp_due1 {w0 w : World} {b r : Nat} {L : List En} (h : PP w0 w b r L) (now : Int) : Calls Try.prog 19 #[.pointer (some ⟨b, 0, none⟩), .int .i64 now] w fun e w' => ∃ a c, e = .returned (.slice a (due L now).length c) ∧ EndP w0 r L now a c w' := by
  obtain ⟨F, v, h1, h2, h3, h4, h5⟩ := h
  refine (q_due h1 now).mono ?_
  rintro e w' ⟨u, F', rfl, k1, k2, k3, k4, _⟩
  have hr := h2.hb.lt
  have hlt := fun g hg => (k4.lt g hg).1
  rw [show (due L now).length = (ids (due L now)).length from (ids_length _).symm] at k4
  obtain ⟨a, c, rfl, hc1, hc2, hrd⟩ := (Rd.of_own k4).len
  rw [ids_length] at hrd hlt
  exact ⟨a, c, by rw [ids_length], v, h2.kept k2 fun g hg hf => (h4 g hf).2 hg, h5 r (.inl rfl), h3.trans (k2.below h3.size fun g hg => (h4 g hg).1), hrd, fun g hg e => by have := hlt g hg; omega⟩
theorem pp_due2 {w0 w : World} {r : Nat} {L : List En} {now : Int} {a : Option Addr} {c : Nat} (h : EndP w0 r L now a c w) (hs : Srt L) : Calls Try.prog 20 #[.pointer (some ⟨r, 0, none⟩), .int .i64 now] w fun e w' => ∃ a' c', e = .returned (.slice a' (due L now).length c') ∧ Rd w' (.slice a (due L now).length c) (ids (due L now)) ∧ Rd w' (.slice a' (due L now).length c') (ids (due L now)) ∧ Below w0.heap.size w0 w' := by
  obtain ⟨v, h1, h2, h3, h4, h5⟩ := h
  refine (rdue_ok r v L now w hs h1).mono ?_
  rintro e w' ⟨a', c', rfl, k1, _, _, v', k2, k3, k4⟩
  exact ⟨a', c', rfl, h4.kept k3 h5, k1, h3.trans (k3.below h3.size fun g e => by rw [e]; exact h2)⟩
/-- Both made. -/
theorem pp_new {w0 w1 w2 : World} {b : Nat} (h : Own w0 w1 b []) (hr : RqW w2 w1.heap.size (.slice none 0 0) []) (hb : Below w1.heap.size w1 w2) : PP w0 w2 b w1.heap.size [] := by
  obtain ⟨F, h1, h2, h3⟩ := h
  refine ⟨F, .slice none 0 0, h1.below hb, hr, h3.trans (hb.mono h3.size), fun g hg => ⟨h2 g hg, ?_⟩, ?_⟩
  · rintro (e | e)
    · have := h1.lt hg; omega
    · cases e
  · rintro g (rfl | e)
    · exact h3.size
    · cases e
end Go.Proofs.Ytlnjgbdekcgmpaa
