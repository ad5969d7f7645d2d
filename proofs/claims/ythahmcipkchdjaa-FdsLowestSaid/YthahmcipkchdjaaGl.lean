/- The memory of FdsLowest between its calls: the table, the list of open files, two maps. -/
import Derived.Test.YthahmcipkchdjaaGs
import Derived.Test.YthahmcipkchdjaaFv
import Derived.Test.YthahmcipkchdjaaFq
namespace Go.Proofs.Ythahmcipkchdjaa
open Go.RowKit

structure Lo (w0 w : World) (b k m : Nat) (F : Fb) (p : Option Addr) (q c : Nat) (R : List (Nat × Nat)) (mN mE e1 e2 : Nat) (N1 N2 : Lk) : Prop where
  s : FSt w0 w b k m F
  r : w.ownsRow w0.heap.size 25 3 (.slice p q c) q (ocls (R.map fro))
  rl : R.length = q
  n1 : MapW w mN e1 N1
  n2 : MapW w mE e2 N2
  f1 : ¬ FFoot b k m mN
  f2 : ¬ FFoot b k m mE
  ne : mN ≠ mE
  l1 : w0.heap.size ≤ mN
  l2 : w0.heap.size ≤ mE
theorem MapW.kept {S : Nat → Prop} {w w' : World} {m n : Nat} {T : Lk} (h : MapW w m n T) (q : Kept S w w') (hs : ¬ S m) : MapW w' m n T := h.same (q.block m h.lt hs)
theorem row_cells {w : World} {base n : Nat} {v : Value} {xs : List Value} (h : w.ownsRow base 25 3 v n xs) {g : Nat} (hg : v.ownBlock = some g) : base ≤ g ∧ ∃ cs, Bk w g 25 cs := by
  rcases h.2 with ⟨rfl, _⟩ | ⟨g', cap, cur, rfl, h1, h2, _⟩
  · cases hg
  · obtain rfl : g' = g := by simpa [Value.ownBlock] using hg
    exact ⟨h1, _, h2⟩
theorem row_kept {S : Nat → Prop} {w w' : World} {base n : Nat} {v : Value} {xs : List Value} (h : w.ownsRow base 25 3 v n xs) (q : Kept S w w') (hs : ∀ g, v.ownBlock = some g → ¬ S g) : w'.ownsRow base 25 3 v n xs :=
  own_same h fun g hg => q.block g (by obtain ⟨_, _, hb⟩ := row_cells h hg; exact hb.lt) (hs g hg)
section
variable {w0 w w' : World} {b k m : Nat} {F G : Fb} {p p' : Option Addr} {q c q' c' : Nat} {R R' : List (Nat × Nat)} {mN mE e1 e2 : Nat} {N1 N2 N' : Lk}
theorem Lo.quiet (h : Lo w0 w b k m F p q c R mN mE e1 e2 N1 N2) (d : Below w.heap.size w w') : Lo w0 w' b k m F p q c R mN mE e1 e2 N1 N2 :=
  ⟨h.s.quiet d, own_below h.r d, h.rl, h.n1.same (d.block _ h.n1.lt), h.n2.same (d.block _ h.n2.lt), h.f1, h.f2, h.ne, h.l1, h.l2⟩
theorem Lo.file (h : Lo w0 w b k m F p q c R mN mE e1 e2 N1 N2) (d : Kept (FFoot b k m) w w') (f : FSt w0 w' b k m G) : Lo w0 w' b k m G p q c R mN mE e1 e2 N1 N2 :=
  ⟨f, row_kept h.r d fun g hg => by obtain ⟨_, _, hb⟩ := row_cells h.r hg; exact h.s.f.box hb (by decide) (by decide), h.rl, h.n1.kept d h.f1, h.n2.kept d h.f2, h.f1, h.f2, h.ne, h.l1, h.l2⟩
theorem Lo.row (h : Lo w0 w b k m F p q c R mN mE e1 e2 N1 N2) (d : Kept (fun g => (Value.slice p q c).ownBlock = some g) w w') (hl : R'.length = q') (hr : w'.ownsRow w0.heap.size 25 3 (.slice p' q' c') q' (ocls (R'.map fro))) : Lo w0 w' b k m F p' q' c' R' mN mE e1 e2 N1 N2 :=
  ⟨⟨h.s.f.kept d fun g hg e => by obtain ⟨_, _, hb⟩ := row_cells h.r e; exact h.s.f.box hb (by decide) (by decide) hg, h.s.bel.trans (d.below h.s.bel.size fun g e => (row_cells h.r e).1), h.s.lo⟩, hr, hl,
    h.n1.kept d fun e => by obtain ⟨_, _, hb⟩ := row_cells h.r e; exact h.n1.no_cells hb, h.n2.kept d fun e => by obtain ⟨_, _, hb⟩ := row_cells h.r e; exact h.n2.no_cells hb, h.f1, h.f2, h.ne, h.l1, h.l2⟩
theorem Lo.put1 (h : Lo w0 w b k m F p q c R mN mE e1 e2 N1 N2) {e' : Nat} (d : Kept (· = mN) w w') (hm : MapW w' mN e' N') : Lo w0 w' b k m F p q c R mN mE e' e2 N' N2 :=
  ⟨⟨h.s.f.kept d fun g hg e => h.f1 (by rw [← e]; exact hg), h.s.bel.trans (d.below h.s.bel.size fun g e => by rw [e]; exact h.l1), h.s.lo⟩, row_kept h.r d fun g hg e => by obtain ⟨_, _, hb⟩ := row_cells h.r hg; subst e; exact h.n1.no_cells hb, h.rl, hm, h.n2.kept d fun e => h.ne e.symm, h.f1, h.f2, h.ne, h.l1, h.l2⟩
theorem Lo.put2 (h : Lo w0 w b k m F p q c R mN mE e1 e2 N1 N2) {e' : Nat} (d : Kept (· = mE) w w') (hm : MapW w' mE e' N') : Lo w0 w' b k m F p q c R mN mE e1 e' N1 N' :=
  ⟨⟨h.s.f.kept d fun g hg e => h.f2 (by rw [← e]; exact hg), h.s.bel.trans (d.below h.s.bel.size fun g e => by rw [e]; exact h.l2), h.s.lo⟩, row_kept h.r d fun g hg e => by obtain ⟨_, _, hb⟩ := row_cells h.r hg; subst e; exact h.n2.no_cells hb, h.rl, h.n1.kept d h.ne, hm, h.f1, h.f2, h.ne, h.l1, h.l2⟩
/-- A block of cells that is no resource's, beside all that. -/
theorem Lo.box_file {A : Nat} {t : TypeId} {cs : Array Value} (h : Lo w0 w b k m F p q c R mN mE e1 e2 N1 N2) (hA : Bk w A t cs) (d : Kept (FFoot b k m) w w') (h1 : t ≠ 75) (h2 : t ≠ 106) : Bk w' A t cs := hA.kept d (h.s.f.box hA h1 h2)
theorem Lo.box_row {A : Nat} {t : TypeId} {cs : Array Value} (h : Lo w0 w b k m F p q c R mN mE e1 e2 N1 N2) (hA : Bk w A t cs) (d : Kept (fun g => (Value.slice p q c).ownBlock = some g) w w') (h1 : t ≠ 25) : Bk w' A t cs :=
  hA.kept d fun e => by obtain ⟨_, _, hb⟩ := row_cells h.r e; exact h1 (hA.uniq hb).1
theorem Lo.rd (h : Lo w0 w b k m F p q c R mN mE e1 e2 N1 N2) : RdO w (.slice p q c) (R.map fro) := by
  have := h.r
  rw [show q = (R.map fro).length by rw [List.length_map, h.rl]] at this
  have := RdO.of_own this
  rwa [List.length_map, h.rl] at this
/-- The files of the list are possible. -/
theorem fro_rg {n f j : Nat} {N : Lk} (h : Lw F n f j R N) {r : Nat × Nat} (hr : r ∈ R) : RgO 1 r.1 r.2 ∧ F.chk 1 r.1 r.2 = 0 ∧ r.1 < 64 := by
  obtain ⟨h1, h2, h3⟩ := (h.mem r).1 hr
  have h4 := h.ok.t.gm r.1
  have h5 := h.ok.hi
  have h6 := h.n_eq
  have := h.ok.chk_held (i := r.1) (by omega) h2
  rw [← h3] at this
  exact ⟨⟨by omega, by omega, by omega, by omega, by omega, by omega⟩, this, by omega⟩
/-- Close of the file at place i, and its going out of the list. -/
theorem lo_close (h : Lo w0 w b k m F p q c R mN mE e1 e2 N1 N2) {n f j : Nat} {N : Lk} (hw : Lw F n f j R N) {i : Nat} (hi : i < R.length) : Calls Try.prog 16 #[.pointer (some ⟨b, 0, none⟩), .agg #[.int .i64 1, .int .i64 R[i].1, .int .u32 R[i].2]] w fun e w' =>
    e = .returned (.int .i64 0) ∧ Hid (Lo w0 w' b k m (F.close R[i].1) p q c R mN mE e1 e2 N1 N2) ∧ Hid (Kept (FFoot b k m) w w') := by
  obtain ⟨h1, h2, h3⟩ := fro_rg hw (List.getElem_mem hi)
  refine (close_s 1 R[i].1 R[i].2 0 h.s h1 h2).mono fun e w' ⟨k1, k2, k3⟩ => ⟨k1, ?_, k3⟩
  have e1 := Fb.closed_of (i := R[i].1) h2
  rw [e1] at k2
  exact h.file k3.out k2.out
theorem lo_delete (h : Lo w0 w b k m F p q c R mN mE e1 e2 N1 N2) {i r : Nat} (hq : q = i + 1 + r) (hl : q ≤ 1000) : Calls Try.prog 22 #[.slice p q c, .int .i64 i, .int .i64 (i + 1)] w fun e w' =>
    e = .returned (.slice p (i + r) c) ∧ Hid (Lo w0 w' b k m F p (i + r) c (R.eraseIdx i) mN mE e1 e2 N1 N2) ∧ Hid (Kept (fun g => (Value.slice p q c).ownBlock = some g) w w') := by
  subst hq
  have hR := h.r
  have hlen : (R.map fro).length = i + 1 + r := by rw [List.length_map, h.rl]
  rcases h.r.2 with ⟨e, h0⟩ | ⟨g, cap, cur, e, _⟩
  · omega
  · injection e with e1 e2 e3
    subst e1 e3
    rw [← hlen] at hR
    refine (delete_ok w0.heap.size i r c g (R.map fro) hlen (by omega) w (by rw [hlen] at hR ⊢; exact hR)).mono fun e w' ⟨k1, k2⟩ => ⟨k1, ?_, k2.out.2.mono fun g' _ e => by subst e; rfl⟩
    obtain ⟨k3, k4⟩ := k2.out
    have e5 : (R.map fro).eraseIdx i = (R.eraseIdx i).map fro := by simp only [List.eraseIdx_eq_take_drop_succ, List.map_append, List.map_take, List.map_drop]
    have e6 : (R.eraseIdx i).length = i + r := by rw [List.length_eraseIdx_of_lt (by rw [h.rl]; omega), h.rl]; omega
    rw [e5, List.length_map, e6] at k3
    exact h.row (k4.mono fun g' _ e => by subst e; rfl) e6 k3
theorem lo_open (h : Lo w0 w b k m F p q c R mN mE e1 e2 N1 N2) {n f j : Nat} {N : Lk} (hw : Lw F n f j R N) {i x : Nat} (hi : i < n) (hb : ∀ t, t < i → ∃ r ∈ R, r.1 = t) (hn : ∀ r ∈ R, r.1 ≠ i) (hx : x ≤ 65535) : Calls Try.prog 14 #[.pointer (some ⟨b, 0, none⟩), .int .i64 x] w fun e w' =>
    e = .returned (.tuple #[.agg #[.int .i64 1, .int .i64 i, .int .u32 (F.t.g i)], .int .i64 0]) ∧ Hid (Lo w0 w' b k m (F.opened i x) p q c R mN mE e1 e2 N1 N2) ∧ Hid (Kept (FFoot b k m) w w') := by
  have h0 := hw.free hi hn
  obtain ⟨r, hfree⟩ := free_head (T := F.t) (i := i) (fun t ht => by have := (hw.held (hb t ht)).2; omega) h0 (by rw [hw.n_eq]; exact hi)
  obtain ⟨o1, o2, o3, o4, o5⟩ := Fb.opn_at hfree x
  refine (open_s x 1 i (F.t.g i) 0 h.s hx (by rw [o1]; rfl) (by rw [o2]) (by rw [o3]) o4).mono fun e w' ⟨k1, k2, k3⟩ => ⟨k1, ?_, k3⟩
  rw [o5] at k2
  exact h.file k3.out k2.out
theorem lo_full (h : Lo w0 w b k m F p q c R mN mE e1 e2 N1 N2) {n f j : Nat} {N : Lk} (hw : Lw F n f j R N) (hb : ∀ t, t < n → ∃ r ∈ R, r.1 = t) {x : Nat} (hx : x ≤ 65535) : Calls Try.prog 14 #[.pointer (some ⟨b, 0, none⟩), .int .i64 x] w fun e w' =>
    e = .returned (.tuple #[.agg #[.int .i64 0, .int .i64 0, .int .u32 0], .int .i64 4]) ∧ Hid (Lo w0 w' b k m F p q c R mN mE e1 e2 N1 N2) ∧ Hid (Kept (FFoot b k m) w w') := by
  have hfree := free_none (T := F.t) fun t ht => by have := (hw.held (hb t (by rw [← hw.n_eq]; exact ht))).2; omega
  obtain ⟨o1, o2, o3, o4, o5⟩ := Fb.opn_full hfree x
  refine (open_s x 0 0 0 4 h.s hx (by rw [o1]; rfl) (by rw [o2]; rfl) (by rw [o3]; rfl) o4).mono fun e w' ⟨k1, k2, k3⟩ => ⟨k1, ?_, k3⟩
  rw [o5] at k2
  exact h.file k3.out k2.out
theorem Lo.aside {A : Nat} {t : TypeId} {cs : Array Value} (h : Lo w0 w b k m F p q c R mN mE e1 e2 N1 N2) (hA : Bk w A t cs) (h1 : t ≠ 75) (h2 : t ≠ 106) (h3 : t ≠ 25) (hl : w0.heap.size ≤ A) (d : Kept (· = A) w w') : Lo w0 w' b k m F p q c R mN mE e1 e2 N1 N2 :=
  have hn := h.s.f.box hA h1 h2
  ⟨⟨h.s.f.kept d fun g hg e => hn (by rw [← e]; exact hg), h.s.bel.trans (d.below h.s.bel.size fun g e => by rw [e]; exact hl), h.s.lo⟩, row_kept h.r d fun g hg e => by obtain ⟨_, _, hb⟩ := row_cells h.r hg; subst e; exact h3 (hA.uniq hb).1, h.rl,
    h.n1.kept d fun e => h.n1.no_cells (by rw [e]; exact hA), h.n2.kept d fun e => h.n2.no_cells (by rw [e]; exact hA), h.f1, h.f2, h.ne, h.l1, h.l2⟩
/-- At the beginning. -/
theorem Lo.start {n f : Nat} (h : FSt w0 w b k m F) (hw : Lw F n f 0 [] (fun _ _ _ => none)) : Lo w0 ((w.alloc (.map #[] 0)).alloc (.map #[] 0)) b k m F none 0 0 [] w.heap.size (w.heap.size + 1) 0 0 (fun _ _ _ => none) (Lk.ever fun _ _ _ => none) := by
  have _ := hw
  have k1 : Below w.heap.size w (w.alloc (.map #[] 0)) := (Below.refl _ w).alloc (Nat.le_refl _) _
  have hs : (w.alloc (.map #[] 0)).heap.size = w.heap.size + 1 := by simp
  have k2 : Below (w.alloc (.map #[] 0)).heap.size (w.alloc (.map #[] 0)) ((w.alloc (.map #[] 0)).alloc (.map #[] 0)) := (Below.refl _ _).alloc (Nat.le_refl _) _
  have m1 := MapW.new w
  have m2 := MapW.new (w.alloc (.map #[] 0))
  rw [hs] at m2
  have hz := h.bel.size
  exact ⟨(h.quiet k1).quiet k2, World.ownsRow_nil _ _ _ _, rfl, m1.same (k2.block _ m1.lt), m2, fun e => by have := h.f.foot_lt e; omega, fun e => by have := h.f.foot_lt e; omega, by omega, by omega, by omega⟩
end
end Go.Proofs.Ythahmcipkchdjaa
