/- Queues by their contents: what Due, Drop, Set, When, Len, Next make of one; its blocks as a predicate. -/
import Derived.Test.YtlnjgbdekcgmpaaEj
namespace Go.Proofs.Ytlnjgbdekcgmpaa
open Go.RowKit

theorem QW.not_other {w : World} {b k m : Nat} {v : Value} {L : List En} (h : QW w b k m v L) {D : Nat} {x : Option (List Deferred)} (hD : w.heap[D]? = some (.deferred x)) : ¬ QFoot b k m v D := by
  rintro (rfl | rfl | rfl | e)
  · have := h.hb; unfold Bk at this; rw [hD] at this; cases this
  · have := h.line.hk; unfold Bk at this; rw [hD] at this; cases this
  · obtain ⟨D', ⟨es, clock, hm, _⟩, _⟩ := h.line.map
    rw [hD] at hm; cases hm
  · rcases h.line.row.2 with ⟨rfl, _⟩ | ⟨g, cap, cur, rfl, _, h2, _⟩
    · cases e
    · obtain rfl : g = D := by simpa [Value.ownBlock] using e
      rw [hD] at h2; cases h2

/-- The queue in block b holds L; its blocks are those that F names. -/
def Q (w : World) (b : Nat) (F : Nat → Prop) (L : List En) : Prop := ∃ k m v, QW w b k m v L ∧ ∀ g, F g ↔ QFoot b k m v g
section
variable {w w' : World} {b : Nat} {F : Nat → Prop} {L : List En}
theorem Q.lt (h : Q w b F L) {g : Nat} (hg : F g) : g < w.heap.size := by obtain ⟨k, m, v, h1, h2⟩ := h; exact h1.foot_lt ((h2 g).1 hg)
theorem Q.kept {S : Nat → Prop} (h : Q w b F L) (q : Kept S w w') (hs : ∀ g, F g → ¬ S g) : Q w' b F L := by
  obtain ⟨k, m, v, h1, h2⟩ := h
  exact ⟨k, m, v, h1.kept q fun g hg => hs g ((h2 g).2 hg), h2⟩
theorem Q.below (h : Q w b F L) (q : Below w.heap.size w w') : Q w' b F L := by obtain ⟨k, m, v, h1, h2⟩ := h; exact ⟨k, m, v, h1.below q, h2⟩
theorem Q.srt (h : Q w b F L) : Srt L := by obtain ⟨k, m, v, h1, _⟩ := h; exact h1.srt
theorem Q.nod (h : Q w b F L) : Nod L := by obtain ⟨k, m, v, h1, _⟩ := h; exact h1.nod
theorem Q.len (h : Q w b F L) : L.length ≤ 256 := by obtain ⟨k, m, v, h1, _⟩ := h; exact h1.len
theorem Q.rg (h : Q w b F L) : ∀ e ∈ L, 0 ≤ e.2 ∧ e.2 ≤ 1099511627776 := by obtain ⟨k, m, v, h1, _⟩ := h; exact h1.rg
theorem Q.i64 (h : Q w b F L) : ∀ e ∈ L, I64 e.1 := by
  obtain ⟨k, m, v, h1, _⟩ := h
  exact fun e he => h1.line.rg _ (mem_ids.2 ⟨e.2, he⟩)
end
/-- What a call makes of a queue. -/
def Stp (w : World) (b : Nat) (F : Nat → Prop) (L' : List En) (w' : World) : Prop := ∃ F', Q w' b F' L' ∧ Kept F w w' ∧ ∀ g, F' g → F g ∨ w.heap.size ≤ g
theorem Stp.of {w w' : World} {b k m : Nat} {v : Value} {F : Nat → Prop} {L' : List En} (hF : ∀ g, F g ↔ QFoot b k m v g) (h : QPost b k m v L' w w') : Stp w b F L' w' := by
  obtain ⟨v', h1, h2, h3⟩ := h
  refine ⟨QFoot b k m v', ⟨k, m, v', h1, fun _ => Iff.rfl⟩, h2.mono fun g _ hg => (hF g).2 (.inr hg), fun g hg => ?_⟩
  rcases hg with e | e | e | e
  · exact .inl ((hF g).2 (.inl e))
  · exact .inl ((hF g).2 (.inr (.inl e)))
  · exact .inl ((hF g).2 (.inr (.inr (.inl e))))
  · rcases h3 with q | ⟨g', q, hq⟩
    · exact .inl ((hF g).2 (.inr (.inr (.inr (by rw [← q]; exact e)))))
    · rw [q] at e
      exact .inr (by rw [← Option.some.inj e]; exact hq)

/-! ### the calls -/
theorem q_new (w : World) : Calls Try.prog 12 #[] w fun e w' => ∃ b F, e = .returned (.pointer (some ⟨b, 0, none⟩)) ∧ Q w' b F [] ∧ (∀ g, F g → w.heap.size ≤ g) ∧ Below w.heap.size w w' := by
  refine (new_ok w).mono ?_
  rintro e w' ⟨rfl, hq, hb⟩
  refine ⟨_, QFoot (w.heap.size + 2) (w.heap.size + 1) w.heap.size (.slice none 0 0), rfl, ⟨_, _, _, hq, fun _ => Iff.rfl⟩, fun g hg => ?_, hb⟩
  rcases hg with rfl | rfl | rfl | e
  · omega
  · omega
  · omega
  · cases e
theorem q_when {w : World} {b : Nat} {F : Nat → Prop} {L : List En} (h : Q w b F L) {i : Int} (hi : I64 i) : Calls Try.prog 25 #[.pointer (some ⟨b, 0, none⟩), .int .i64 i] w fun e w' => e = .returned (.tuple #[.int .i64 ((tm L i).getD 0), .bool (tm L i).isSome]) ∧ w = w' := by
  obtain ⟨k, m, v, h1, _⟩ := h
  exact when_ok b k m v L i hi w h1
theorem q_len {w : World} {b : Nat} {F : Nat → Prop} {L : List En} (h : Q w b F L) : Calls Try.prog 27 #[.pointer (some ⟨b, 0, none⟩)] w fun e w' => e = .returned (.int .i64 L.length) ∧ w = w' := by
  obtain ⟨k, m, v, h1, _⟩ := h
  exact len_ok b k m v L w h1
theorem q_next {w : World} {b : Nat} {F : Nat → Prop} {L : List En} (h : Q w b F L) : Calls Try.prog 23 #[.pointer (some ⟨b, 0, none⟩)] w (NextV L w) := by
  obtain ⟨k, m, v, h1, _⟩ := h
  exact next_ok b k m v L w h1
theorem q_drop {w : World} {b : Nat} {F : Nat → Prop} {L : List En} (h : Q w b F L) {i : Int} (hi : I64 i) : Calls Try.prog 16 #[.pointer (some ⟨b, 0, none⟩), .int .i64 i] w fun e w' => e = .returned (.bool (tm L i).isSome) ∧ Stp w b F (del L i) w' := by
  obtain ⟨k, m, v, h1, h2⟩ := h
  exact (drop_ok b k m v L i hi w h1).mono fun e w' ⟨he, hp⟩ => ⟨he, Stp.of h2 hp⟩
theorem q_set {w : World} {b : Nat} {F : Nat → Prop} {L : List En} (h : Q w b F L) {i : Int} (hi : I64 i) (t : Int) : Calls Try.prog 14 #[.pointer (some ⟨b, 0, none⟩), .int .i64 i, .int .i64 t] w fun e w' => e = .returned (.int .i64 (setE L i t)) ∧ Stp w b F (setL L i t) w' := by
  obtain ⟨k, m, v, h1, h2⟩ := h
  exact (set_ok b k m v L i t hi w h1).mono fun e w' ⟨he, hp⟩ => ⟨he, Stp.of h2 hp⟩

/-! ### Due -/
theorem tm_drop {L : List En} (hn : Nod L) {j : Nat} {x : En} (h : L[j]? = some x) : tm (L.drop j) x.1 = some x.2 := (tm_some (List.Pairwise.sublist (List.drop_sublist _ _) hn)).2 (List.mem_of_getElem? (show (L.drop j)[0]? = some x by rw [List.getElem?_drop]; exact h))
theorem del_drop {L : List En} (hn : Nod L) {j : Nat} {x : En} (h : L[j]? = some x) : del (L.drop j) x.1 = L.drop (j + 1) := by
  obtain ⟨hj, rfl⟩ := List.getElem?_eq_some_iff.1 h
  have hd : Nod (L.drop j) := List.Pairwise.sublist (List.drop_sublist _ _) hn
  rw [List.drop_eq_getElem_cons hj] at hd ⊢
  unfold del
  rw [List.filter_cons_of_neg (by simp), List.filter_eq_self]
  intro e he
  have := (List.pairwise_cons.1 hd).1 e he
  simp; exact fun e => this e.symm
theorem due_at {L : List En} (hs : Srt L) {now : Int} {j : Nat} {y : Int} (h : (ids (due L now))[j]? = some y) : ∃ t, L[j]? = some (y, t) := by
  unfold ids at h
  rw [List.getElem?_map] at h
  obtain ⟨e, h1, rfl⟩ := Option.map_eq_some_iff.1 h
  rw [(due_eq hs now).1, List.getElem?_take] at h1
  split at h1
  · exact ⟨e.2, h1⟩
  · cases h1
/-- What Due makes of a queue, and what it returns. -/
def DueP (w : World) (b : Nat) (F : Nat → Prop) (L : List En) (now : Int) (e : Ending) (w' : World) : Prop :=
  ∃ v F', e = .returned v ∧ Q w' b F' (rest L now) ∧ Kept F w w' ∧ (∀ g, F' g → F g ∨ w.heap.size ≤ g) ∧ w'.ownsRow w.heap.size 3 1 v (due L now).length (ints (ids (due L now))) ∧ ∀ g, v.ownBlock = some g → ¬ F' g
theorem q_due {w : World} {b : Nat} {F : Nat → Prop} {L : List En} (h : Q w b F L) (now : Int) : Calls Try.prog 19 #[.pointer (some ⟨b, 0, none⟩), .int .i64 now] w (DueP w b F L now) := by
  obtain ⟨k, m, v, h1, h2⟩ := h
  have hft := fun g => h1.foot_lt (g := g)
  refine (due_of (some ⟨b, 0, none⟩) now L h1.srt (fun pre => pre <+: L) L.length h1.len (fun _ h => h) w (fun w2 hsz hB0 hx => all_stops 2 (by decide) (w.heap.size + 2) (w.heap.size + 3) b k m v L _ w2 ⟨h1.below hB0, hx, fun g hg => ⟨by have := hft g hg; omega, by have := hft g hg; omega⟩, by omega, by omega⟩ (by omega))
    (fun W0 j W => Below w.heap.size w W0 ∧ QPost b k m v (L.drop j) W0 W) (fun W hB => ⟨hB, QPost.refl (h1.below hB)⟩) (fun W0 j W ⟨_, v', _, hk, _⟩ => hk.mono fun g _ hg => hft g (.inr hg)) (Nat.le_trans (List.length_filter_le _ _) h1.len) ?_).mono ?_
  · rintro W0 j W y ⟨hB, v', hq, hk, hv⟩ hy
    obtain ⟨t, ht⟩ := due_at h1.srt hy
    have hi : I64 y := h1.line.rg y (mem_ids.2 ⟨t, List.mem_of_getElem? ht⟩)
    have hT := tm_drop h1.nod ht
    have := take_q b k m v' (L.drop j) y t hi W hq hT
    rw [show y = ((y, t) : En).1 from rfl, del_drop h1.nod ht] at this
    exact ⟨b, k, rfl, hq.c, this.mono fun e W' ⟨he, hp⟩ => ⟨he, hB, QPost.lift hk hv hp⟩⟩
  · rintro e w' ⟨vr, W0, W1, D, rfl, hrow, hlt, hB, ⟨_, v', hq, hk, hv⟩, hD, hWD, rfl⟩
    rw [ids_length] at hrow hq
    have hkD : Kept (fun g => g = D) W1 (W1.putObj D (.deferred none)) := by
      have := grownBy_putObj' W1 D (.deferred none)
      exact ⟨this.os, this.tape, this.output, this.size, fun k hk hs => this.block k hk fun e => hs (Option.some.inj e)⟩
    have hq2 : QW (W1.putObj D (.deferred none)) b k m v' (L.drop (due L now).length) := hq.kept hkD fun g hg e => by rw [e] at hg; exact hq.not_other hWD hg
    rw [← (due_eq h1.srt now).2] at hq2
    have hk0 : Kept F w W1 := (Kept.of_below (S := F) hB).trans (hk.mono fun g _ hg => (h2 g).2 (.inr hg))
    refine ⟨vr, QFoot b k m v', rfl, ⟨k, m, v', hq2, fun _ => Iff.rfl⟩, hk0.self (hkD.mono fun g _ e => .inr (by omega)), ?_, hrow, ?_⟩
    · intro g hg
      rcases hg with e | e | e | e
      · exact .inl ((h2 g).2 (.inl e))
      · exact .inl ((h2 g).2 (.inr (.inl e)))
      · exact .inl ((h2 g).2 (.inr (.inr (.inl e))))
      · rcases hv with q | ⟨g', q, hq⟩
        · exact .inl ((h2 g).2 (.inr (.inr (.inr (by rw [← q]; exact e)))))
        · rw [q] at e
          exact .inr (by rw [← Option.some.inj e]; have := hB.size; omega)
    · intro g hg hf
      obtain ⟨g1, g2⟩ := hlt g hg
      rcases hf with e | e | e | e
      · have := hft g (.inl e); omega
      · have := hft g (.inr (.inl e)); omega
      · have := hft g (.inr (.inr (.inl e))); omega
      · rcases hv with q | ⟨g', q, hq⟩
        · have := hft g (.inr (.inr (.inr (by rw [← q]; exact e)))); omega
        · rw [q] at e
          have := Option.some.inj e; omega
theorem due_no (p : Option Addr) (now : Int) (w : World) (h : Inv w p) : Calls Try.prog 19 #[.pointer p, .int .i64 now] w fun e w' => (∃ a c, e = .returned (.slice a 0 c)) ∧ Below w.heap.size w w' := by
  refine (due_of p now [] List.Pairwise.nil (fun _ => False) 0 (by decide) (fun _ h => h.elim) w (fun w2 _ hB0 hx => stops_inv 2 (by decide) _ p _ w2 (h.below hB0) hx) (fun W0 j W => W = W0) (fun _ _ => rfl) (fun W0 _ W e => by rw [e]; exact Kept.refl _ _) (by simp [due]) (fun _ _ _ _ _ hx => by simp [ids, due] at hx)).mono ?_
  rintro e w' ⟨vr, W0, W1, D, rfl, hrow, _, hB, rfl, hD, hWD, rfl⟩
  refine ⟨?_, hB.trans (belowK_b (w := w) (Nat.le_refl _) W1 D _ _ hD hWD rfl rfl)⟩
  rcases hrow.2 with ⟨rfl, _⟩ | ⟨g', cap, cur, rfl, h3, h4, _⟩
  · exact ⟨_, _, rfl⟩
  · exact ⟨_, _, rfl⟩
end Go.Proofs.Ytlnjgbdekcgmpaa
