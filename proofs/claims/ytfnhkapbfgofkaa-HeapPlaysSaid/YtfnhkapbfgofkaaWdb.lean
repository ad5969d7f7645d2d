/- Both heaps beside an older pair, with what was given; each call over them. -/
import Derived.Test.YtfnhkapbfgofkaaWda
import Derived.Test.YtfnhkapbfgofkaaWp
namespace Go.Proofs.Ytfnhkapbfgofkaa
open Go.RowKit

def QFoot (b p t c g : Nat) : Prop := HFoot b p t g ∨ g = c
def Old (w0 w : World) (S : Nat → Prop) (u v : Value) : Prop := u = .pointer none ∨ ∃ b p t c d H, u = .pointer (some ⟨b, 0, none⟩) ∧ v = .pointer (some ⟨c, 0, none⟩) ∧ PS w0 w b p t c d H ∧ ∀ g, TFoot b p t c d g → ¬ S g
theorem PS.kept {w0 w w' : World} {b p t c d : Nat} {H : Hp} {T : Nat → Prop} (h1 : PS w0 w b p t c d H) (q : Kept T w w') (h2 : ∀ g, TFoot b p t c d g → ¬ T g) (lo : ∀ g, T g → w0.heap.size ≤ g) : PS w0 w' b p t c d H :=
  ⟨⟨h1.st.f.kept q fun g hg hs => h2 g (.inl hg) hs, h1.st.bel.trans (q.below h1.st.bel.size lo), h1.st.lo⟩, h1.dw.kept q (h2 c (.inr (.inl rfl))) (h2 d (.inr (.inr rfl))), h1.lc, h1.ld⟩
theorem Old.kept {w0 w w' : World} {S T : Nat → Prop} {u v : Value} (h : Old w0 w S u v) (q : Kept T w w') (hT : ∀ g, T g → S g) (lo : ∀ g, T g → w0.heap.size ≤ g) : Old w0 w' S u v := by
  rcases h with h | ⟨b, p, t, c, d, H, e1, e2, h1, h2⟩
  · exact .inl h
  · exact .inr ⟨b, p, t, c, d, H, e1, e2, h1.kept q (fun g hg hs => h2 g hg (hT g hs)) lo, h2⟩
theorem Old.below {w0 w w' : World} {S : Nat → Prop} {u v : Value} (h : Old w0 w S u v) (q : Below w.heap.size w w') : Old w0 w' S u v := by
  rcases h with h | ⟨b, p, t, c, d, H, e1, e2, h1, h2⟩
  · exact .inl h
  · exact .inr ⟨b, p, t, c, d, H, e1, e2, h1.quiet q, h2⟩
/-- A type of boxes: none of the heaps' blocks is of it. -/
def BoxT (u : TypeId) : Prop := u = 34 ∨ u = 36
theorem BoxT.ne {u : TypeId} (h : BoxT u) : u ≠ 49 ∧ u ≠ 82 ∧ u ≠ 112 ∧ u ≠ 85 ∧ u ≠ 88 := by
  rcases h with rfl | rfl <;> exact ⟨by decide, by decide, by decide, by decide, by decide⟩
/-- .. and where boxes are written. -/
theorem Old.beside {w0 w w' : World} {S T : Nat → Prop} {u v : Value} (h : Old w0 w S u v) (hA : ∀ g, T g → ∃ e cs, BoxT e ∧ Bk w g e cs) (q : Kept T w w') (lo : ∀ g, T g → w0.heap.size ≤ g) : Old w0 w' S u v := by
  rcases h with h | ⟨b, p, t, c, d, H, e1, e2, h1, h2⟩
  · exact .inl h
  · exact .inr ⟨b, p, t, c, d, H, e1, e2, h1.kept q (fun g hg hs => by
      obtain ⟨e, cs, he, hb⟩ := hA g hs
      obtain ⟨n1, n2, n3, n4, n5⟩ := he.ne
      exact PS.box h1.st.f h1.dw hb n1 n2 n3 n4 n5 hg) lo, h2⟩
/-- Every box stays. -/
def KQ (w w' : World) : Prop := ∀ B u cs, BoxT u → Bk w B u cs → Bk w' B u cs
theorem kq_below {w w' : World} (h : Below w.heap.size w w') : KQ w w' := fun _ _ _ _ hb => hb.below h
theorem KQ.trans {a b c : World} (h : KQ a b) (k : KQ b c) : KQ a c := fun B u cs hu hb => k B u cs hu (h B u cs hu hb)
/-- The program's heap holds F, the document's G; what was given is L; u and v are the older pair. -/
structure Im (w0 w : World) (b p t c : Nat) (F G : Hp) (u v : Value) (pa : Option Addr) (q cg : Nat) (L : List Rf) : Prop where
  st : HSt w0 w b p t F
  dw : ∃ d, EW w c d G ∧ w0.heap.size ≤ d
  lc : w0.heap.size ≤ c
  old : Old w0 w (QFoot b p t c) u v
  ll : L.length = q
  row : w.ownsRow w0.heap.size 34 2 (.slice pa q cg) q (rcls L)
  rr : ∀ r ∈ L, Rr r
section
variable {w0 w w' : World} {b p t c : Nat} {F G F' : Hp} {u v : Value} {pa p2 : Option Addr} {q cg q2 cg2 : Nat} {L L' : List Rf}
theorem Im.quiet (h : Im w0 w b p t c F G u v pa q cg L) (d : Below w.heap.size w w') : Im w0 w' b p t c F G u v pa q cg L := by
  obtain ⟨e, h1, h2⟩ := h.dw
  exact ⟨h.st.quiet d, ⟨e, h1.below d, h2⟩, h.lc, h.old.below d, h.ll, row_kept h.row (Kept.of_below (S := fun _ => False) d) (fun _ _ e => e), h.rr⟩
theorem Im.bel (h : Im w0 w b p t c F G u v pa q cg L) : Below w0.heap.size w0 w := h.st.bel
theorem Im.pr (h : Im w0 w b p t c F G u v pa q cg L) (d : Kept (HFoot b p t) w w') (f : HSt w0 w' b p t F') : Im w0 w' b p t c F' G u v pa q cg L ∧ KQ w w' := by
  obtain ⟨e, h1, h2⟩ := h.dw
  refine ⟨⟨f, ⟨e, h1.kept d (h.st.f.no_c h1) (h.st.f.no_d h1), h2⟩, h.lc, h.old.kept d (fun _ hg => .inl hg) h.st.lo, h.ll, row_kept h.row d fun g hg => by obtain ⟨_, _, hb⟩ := row_any h.row hg; exact h.st.f.box hb (by decide) (by decide) (by decide), h.rr⟩, fun B u cs hu hb => ?_⟩
  obtain ⟨n1, n2, n3, _, _⟩ := hu.ne
  exact hb.kept d (h.st.f.box hb n1 n2 n3)
theorem EW.noc {d A : Nat} {u : TypeId} {cs : Array Value} (h : EW w c d G) (hA : Bk w A u cs) (h4 : u ≠ 85) : A ≠ c := by
  rintro rfl
  obtain ⟨cs', hc⟩ := h.cbk
  exact h4 (hA.uniq hc).1
theorem Im.doc {d : Nat} (h : Im w0 w b p t c F G u v pa q cg L) (hd : EW w c d G) (hl : w0.heap.size ≤ d) (f : EStep c d F' w w') : Im w0 w' b p t c F F' u v pa q cg L ∧ KQ w w' := by
  obtain ⟨d', g1, g2, g3⟩ := f
  have lo : ∀ g, g = c → w0.heap.size ≤ g := fun _ e => by rw [e]; exact h.lc
  have hs := h.st.bel.size
  refine ⟨⟨⟨h.st.f.kept g3 fun g hg e => h.st.f.no_c hd (by subst e; exact hg), h.st.bel.trans (g3.below hs lo), h.st.lo⟩, ⟨d', g2, by omega⟩, h.lc, h.old.kept g3 (fun _ e => .inr e) lo, h.ll,
    row_kept h.row g3 fun g hg e => by obtain ⟨_, _, hb⟩ := row_any h.row hg; exact hd.noc hb (by decide) e, h.rr⟩, fun B u cs hu hb => ?_⟩
  obtain ⟨_, _, _, n4, _⟩ := hu.ne
  exact hb.kept g3 (hd.noc hb n4)
/-- A box, or the row of what was given, is written. -/
theorem Im.beside {T : Nat → Prop} (h : Im w0 w b p t c F G u v pa q cg L) (d : Kept T w w') (hA : ∀ g, T g → w0.heap.size ≤ g ∧ ∃ e cs, BoxT e ∧ Bk w g e cs) (hl : L'.length = q2) (hr : w'.ownsRow w0.heap.size 34 2 (.slice p2 q2 cg2) q2 (rcls L')) (hR : ∀ r ∈ L', Rr r) : Im w0 w' b p t c F G u v p2 q2 cg2 L' := by
  obtain ⟨e, h1, h2⟩ := h.dw
  have lo : ∀ g, T g → w0.heap.size ≤ g := fun g hg => (hA g hg).1
  have nb : ∀ g, T g → ¬ HFoot b p t g ∧ g ≠ c ∧ g ≠ e := fun g hg => by
    obtain ⟨_, e', cs, he, hb⟩ := hA g hg
    obtain ⟨n1, n2, n3, n4, n5⟩ := he.ne
    refine ⟨h.st.f.box hb n1 n2 n3, h1.noc hb n4, ?_⟩
    rintro rfl
    obtain ⟨_, h6⟩ := h1.dbk
    exact n5 (hb.uniq h6).1
  exact ⟨⟨h.st.f.kept d fun g hg e' => (nb g e').1 hg, h.st.bel.trans (d.below h.st.bel.size lo), h.st.lo⟩,
    ⟨e, h1.kept d (fun e' => (nb _ e').2.1 rfl) (fun e' => (nb _ e').2.2 rfl), h2⟩, h.lc, h.old.beside (fun g hg => (hA g hg).2) d lo, hl, hr, hR⟩
/-- A box is stored into. -/
theorem Im.store {X i : Nat} {z : Value} {e : TypeId} {cs : Array Value} (h : Im w0 w b p t c F G u v pa q cg L) (hX : Bk w X e cs) (he : BoxT e) (hl : w0.heap.size ≤ X) (hg : ∀ g, (Value.slice pa q cg).ownBlock = some g → g ≠ X) : Im w0 (w.setCell ⟨X, i, none⟩ z) b p t c F G u v pa q cg L := by
  have d : Kept (· = X) w (w.setCell ⟨X, i, none⟩ z) := (Kept.refl _ w).put1 i z
  exact h.beside d (fun g e' => by rw [e']; exact ⟨hl, e, cs, he, hX⟩) h.ll (row_kept h.row d fun g hg' e' => hg g hg' e') h.rr
/-- Where what was given lies, and one of it. -/
theorem Im.given (h : Im w0 w b p t c F G u v pa q cg L) {i : Nat} (hi : i < q) : ∃ g r, pa = some ⟨g, 0, none⟩ ∧ q ≤ cg ∧ cg ≤ 9223372036854775807 ∧ L[i]? = some r ∧ Rr r ∧ w.cell? ⟨g, i * 2, none⟩ = some (.int .i64 r.1) ∧ w.cell? ⟨g, i * 2 + 1, none⟩ = some (.int .u32 r.2) := by
  rcases h.row.2 with ⟨e, h0⟩ | ⟨g, cap, cur, e, h1, h2, h3, h4, h5, h6⟩
  · omega
  · injection e with e1 e2 e3
    subst e1 e3
    have hg : Bk w g 34 cur := h2
    have hil : i < L.length := by rw [h.ll]; exact hi
    have key : ∀ k, k < 2 → w.cell? ⟨g, i * 2 + k, none⟩ = (rcl L[i])[k]? := fun k hk => by
      have e2 := rcls_at L i hil k hk
      have hlt : i * 2 + k < (rcls L).length := by rw [rcls_length]; omega
      rw [← h6, List.getElem?_take_of_lt (by rw [rcls_length] at hlt; rw [h.ll] at hlt; omega), Array.getElem?_toList] at e2
      rw [hg.cell]; exact e2
    exact ⟨g, L[i], rfl, h3, by unfold maxLen at h4; omega, List.getElem?_eq_getElem hil, h.rr _ (List.getElem_mem hil), key 0 (by decide), key 1 (by decide)⟩
theorem Im.own_lt (h : Im w0 w b p t c F G u v pa q cg L) : ∀ g, (Value.slice pa q cg).ownBlock = some g → g < w.heap.size := fun g hg => by
  obtain ⟨_, _, hb⟩ := row_any h.row hg; exact hb.lt

/-! ### each call, of both sides at once: the same answers, the same next heap -/
theorem im_shows (x y : Int) (h : Im w0 w b p t c F F u v pa q cg L) : Calls Try.prog 24 #[.pointer (some ⟨b, 0, none⟩), .pointer (some ⟨c, 0, none⟩), .agg #[.int .i64 x, .int .u32 y]] w fun e w' => e = .returned (.bool true) ∧ Im w0 w' b p t c F F u v pa q cg L ∧ KQ w w' := by
  obtain ⟨d, h1, h2⟩ := h.dw
  refine (shows_ok b p t c d F x y w0 w ⟨h.st, h1, h.lc, h2⟩).mono ?_
  rintro e w' ⟨rfl, h3⟩
  exact ⟨rfl, h.quiet h3, kq_below h3⟩
theorem im_free (x y : Int) (F : Hp) : ∃ (E : Int) (F' : Hp), (∀ (w0 w : World) (b p t c : Nat) (u v : Value) (pa : Option Addr) (q cg : Nat) (L : List Rf), Im w0 w b p t c F F u v pa q cg L → Calls Try.prog 16 #[.pointer (some ⟨b, 0, none⟩), .agg #[.int .i64 x, .int .u32 y]] w fun e w' => e = .returned (.int .i64 E) ∧ Im w0 w' b p t c F' F u v pa q cg L ∧ KQ w w')
    ∧ ∀ (w0 w : World) (b p t c : Nat) (u v : Value) (pa : Option Addr) (q cg : Nat) (L : List Rf), Im w0 w b p t c F' F u v pa q cg L → Calls Try.prog 17 #[.pointer (some ⟨c, 0, none⟩), .agg #[.int .i64 x, .int .u32 y]] w fun e w' => e = .returned (.int .i64 E) ∧ Im w0 w' b p t c F' F' u v pa q cg L ∧ KQ w w' := by
  refine ⟨F.chk (x, y), F.freed (x, y), fun w0 w b p t c u v pa q cg L h => ?_, fun w0 w b p t c u v pa q cg L h => ?_⟩
  · refine (free_s x y _ h.st rfl).mono ?_
    rintro e w' ⟨rfl, h1, h2⟩
    exact ⟨rfl, h.pr h2 h1⟩
  · obtain ⟨d, h1, h2⟩ := h.dw
    refine (dh_free c d F x y _ rfl w h1).mono ?_
    rintro e w' ⟨rfl, h3⟩
    exact ⟨rfl, h.doc h1 h2 h3.out⟩
theorem im_load (x y i : Int) (hi : I64 i) (F : Hp) : ∃ (k : Rf) (E : Int), (∀ (w0 w : World) (b p t c : Nat) (u v : Value) (pa : Option Addr) (q cg : Nat) (L : List Rf), Im w0 w b p t c F F u v pa q cg L → Calls Try.prog 18 #[.pointer (some ⟨b, 0, none⟩), .agg #[.int .i64 x, .int .u32 y], .int .i64 i] w fun e w' => e = .returned (.tuple #[.agg #[.int .i64 k.1, .int .u32 k.2], .int .i64 E]) ∧ Im w0 w' b p t c F F u v pa q cg L ∧ KQ w w')
    ∧ ∀ (w0 w : World) (b p t c : Nat) (u v : Value) (pa : Option Addr) (q cg : Nat) (L : List Rf), Im w0 w b p t c F F u v pa q cg L → Calls Try.prog 19 #[.pointer (some ⟨c, 0, none⟩), .agg #[.int .i64 x, .int .u32 y], .int .i64 i] w fun e w' => e = .returned (.tuple #[.agg #[.int .i64 k.1, .int .u32 k.2], .int .i64 E]) ∧ Im w0 w' b p t c F F u v pa q cg L ∧ KQ w w' := by
  refine ⟨F.lR (x, y) i, F.lE (x, y) i, fun w0 w b p t c u v pa q cg L h => ?_, fun w0 w b p t c u v pa q cg L h => ?_⟩
  · refine (load_s x y i _ _ h.st hi rfl rfl).mono ?_
    rintro e w' ⟨rfl, h1⟩
    exact ⟨rfl, h.quiet h1, kq_below h1⟩
  · obtain ⟨d, h1, h2⟩ := h.dw
    refine (dh_load c d F x y i _ _ hi rfl rfl w h1).mono ?_
    rintro e w' ⟨rfl, h3⟩
    exact ⟨rfl, h.quiet h3, kq_below h3⟩
theorem im_store (x y i vs vg : Int) (hi : I64 i) (hv : Rr (vs, vg)) (F : Hp) : ∃ (k : Rf) (E : Int) (F' : Hp), (∀ (w0 w : World) (b p t c : Nat) (u v : Value) (pa : Option Addr) (q cg : Nat) (L : List Rf), Im w0 w b p t c F F u v pa q cg L → Calls Try.prog 20 #[.pointer (some ⟨b, 0, none⟩), .agg #[.int .i64 x, .int .u32 y], .int .i64 i, .agg #[.int .i64 vs, .int .u32 vg]] w fun e w' => e = .returned (.tuple #[.agg #[.int .i64 k.1, .int .u32 k.2], .int .i64 E]) ∧ Im w0 w' b p t c F' F u v pa q cg L ∧ KQ w w')
    ∧ ∀ (w0 w : World) (b p t c : Nat) (u v : Value) (pa : Option Addr) (q cg : Nat) (L : List Rf), Im w0 w b p t c F' F u v pa q cg L → Calls Try.prog 21 #[.pointer (some ⟨c, 0, none⟩), .agg #[.int .i64 x, .int .u32 y], .int .i64 i, .agg #[.int .i64 vs, .int .u32 vg]] w fun e w' => e = .returned (.tuple #[.agg #[.int .i64 k.1, .int .u32 k.2], .int .i64 E]) ∧ Im w0 w' b p t c F' F' u v pa q cg L ∧ KQ w w' := by
  refine ⟨F.sR (x, y) i (vs, vg), F.sE (x, y) i (vs, vg), F.stored (x, y) i (vs, vg), fun w0 w b p t c u v pa q cg L h => ?_, fun w0 w b p t c u v pa q cg L h => ?_⟩
  · refine (store_s x y i vs vg _ _ hi hv h.st rfl rfl).mono ?_
    rintro e w' ⟨rfl, h1, h2⟩
    exact ⟨rfl, h.pr h2 h1⟩
  · obtain ⟨d, h1, h2⟩ := h.dw
    refine (dh_store c d F x y i vs vg _ _ hi rfl rfl w h1).mono ?_
    rintro e w' ⟨rfl, h3⟩
    exact ⟨rfl, h.doc h1 h2 h3.out⟩
theorem rr_zero : Rr ((0 : Int), (0 : Int)) := ⟨by decide, by decide, by decide, by decide⟩
theorem made_rr {H : Hp} (ok : H.Ok) (n : Int) (hd : Bool) : Rr (H.mR n hd) := by
  unfold Hp.mR
  split
  · cases hf : H.t.free with
    | nil => exact rr_zero
    | cons i r =>
      obtain ⟨hi, _⟩ := Tb.free_lt hf
      have := ok.t.hi
      have := ok.t.gm i
      exact ⟨by show _ ≤ (i : Int); omega, by show (i : Int) ≤ _; omega, by show 0 ≤ (H.t.g i : Int); omega, by show (H.t.g i : Int) ≤ _; omega⟩
  · exact rr_zero
theorem im_make (n : Int) (hd : Bool) (hn : I64 n) (F : Hp) (ok : F.Ok) : ∃ (k : Rf) (E : Int) (F' : Hp), Rr k ∧ (∀ (w0 w : World) (b p t c : Nat) (u v : Value) (pa : Option Addr) (q cg : Nat) (L : List Rf), Im w0 w b p t c F F u v pa q cg L → Calls Try.prog 14 #[.pointer (some ⟨b, 0, none⟩), .int .i64 n, .bool hd] w fun e w' => e = .returned (.tuple #[.agg #[.int .i64 k.1, .int .u32 k.2], .int .i64 E]) ∧ Im w0 w' b p t c F' F u v pa q cg L ∧ KQ w w')
    ∧ ∀ (w0 w : World) (b p t c : Nat) (u v : Value) (pa : Option Addr) (q cg : Nat) (L : List Rf), Im w0 w b p t c F' F u v pa q cg L → Calls Try.prog 15 #[.pointer (some ⟨c, 0, none⟩), .int .i64 n, .bool hd] w fun e w' => e = .returned (.tuple #[.agg #[.int .i64 k.1, .int .u32 k.2], .int .i64 E]) ∧ Im w0 w' b p t c F' F' u v pa q cg L ∧ KQ w w' := by
  refine ⟨F.mR n hd, F.mE n hd, F.made n hd, made_rr ok n hd, fun w0 w b p t c u v pa q cg L h => ?_, fun w0 w b p t c u v pa q cg L h => ?_⟩
  · refine (make_s n hd _ _ hn h.st rfl rfl).mono ?_
    rintro e w' ⟨rfl, h1, h2⟩
    exact ⟨rfl, h.pr h2 h1⟩
  · obtain ⟨d, h1, h2⟩ := h.dw
    refine (dh_make c d F n hd _ _ hn rfl rfl w h1).mono ?_
    rintro e w' ⟨rfl, h3⟩
    exact ⟨rfl, h.doc h1 h2 h3.out⟩
/-- The program's heap copied, the document's not yet. -/
def Cp (w0 w : World) (b p t c : Nat) (F : Hp) (pa : Option Addr) (q cg : Nat) (L : List Rf) (b2 : Nat) : Prop := ∃ p2 t2, Im w0 w b p t c F F (.pointer none) (.pointer none) pa q cg L ∧ HW w b2 p2 t2 F ∧ (∀ g, HFoot b2 p2 t2 g → w0.heap.size ≤ g) ∧ (∀ d, EW w c d F → w0.heap.size ≤ d → ∀ g, TFoot b p t c d g → ¬ HFoot b2 p2 t2 g)
theorem im_copy (h : Im w0 w b p t c F F u v pa q cg L) : Calls Try.prog 22 #[.pointer (some ⟨b, 0, none⟩)] w fun e w' => ∃ b2, e = .returned (.pointer (some ⟨b2, 0, none⟩)) ∧ Hid (Cp w0 w' b p t c F pa q cg L b2) ∧ KQ w w' := by
  refine (hcopy_ok b p t F w h.st.f).mono ?_
  rintro e w' ⟨b2, rfl, hn⟩
  obtain ⟨p2, t2, h1, h2, h3⟩ := hn.out
  have hi : Im w0 w b p t c F F (.pointer none) (.pointer none) pa q cg L := ⟨h.st, h.dw, h.lc, .inl rfl, h.ll, h.row, h.rr⟩
  refine ⟨b2, rfl, ⟨p2, t2, hi.quiet h3, h1, fun g hg => Nat.le_trans h.st.bel.size (h2 g hg), fun d hd hl g hg hf => ?_⟩, kq_below h3⟩
  rcases hg with hg | rfl | rfl
  · have := h.st.f.foot_lt hg; have := h2 g hf; omega
  · exact h1.no_c hd hf
  · exact h1.no_d hd hf
theorem cp_copy {b2 : Nat} (h : Cp w0 w b p t c F pa q cg L b2) : Calls Try.prog 23 #[.pointer (some ⟨c, 0, none⟩)] w fun e w' => ∃ c2, e = .returned (.pointer (some ⟨c2, 0, none⟩)) ∧ Hid (∃ p2 t2, Im w0 w' b2 p2 t2 c2 F F (.pointer (some ⟨b, 0, none⟩)) (.pointer (some ⟨c, 0, none⟩)) pa q cg L) ∧ KQ w w' := by
  obtain ⟨p2, t2, h1, h2, h3, h4⟩ := h
  obtain ⟨d, hd, hl⟩ := h1.dw
  refine (dh_copy c d F w hd).mono ?_
  rintro e w' ⟨c2, rfl, hN⟩
  obtain ⟨d2, k1, k2', k3, k4⟩ := hN.out
  have hs := h1.st.bel.size
  have hps : PS w0 w b p t c d F := ⟨h1.st, hd, h1.lc, hl⟩
  have hq := h1.quiet k4
  refine ⟨c2, rfl, ⟨p2, t2, ⟨h2.below k4, hq.bel, h3⟩, ⟨d2, k1, by omega⟩, by omega, .inr ⟨b, p, t, c, d, F, rfl, rfl, hps.quiet k4, fun g hg hf => ?_⟩, hq.ll, hq.row, hq.rr⟩, kq_below k4⟩
  have hlt := hps.foot_lt hg
  rcases hf with hf | rfl
  · exact h4 d hd hl g hg hf
  · omega
/-- One name more behind what was given. -/
theorem im_app (k : Rf) (hk : Rr k) (h : Im w0 w b p t c F G u v pa q cg L) (hq : q ≤ 200) : ∃ p2 cg2 w', (Builtin.append_ #[32, 32] 32 #[.slice pa q cg, .slice (some ⟨w.heap.size, 0, none⟩) 1 1]).run Try.prog (w.alloc (.cells #[.int .i64 k.1, .int .u32 k.2] 34)) = .ok (.slice p2 (q + 1) cg2) w' ∧
    Hid (Im w0 w' b p t c F G u v p2 (q + 1) cg2 (L ++ [k])) ∧ Hid (∀ B e cs, BoxT e → Bk w B e cs → (∀ g, (Value.slice pa q cg).ownBlock = some g → g ≠ B) → Bk w' B e cs ∧ ∀ g, (Value.slice p2 (q + 1) cg2).ownBlock = some g → g ≠ B) := by
  obtain ⟨j0, hj, hy0, hy1, hy2⟩ := info_parts info_ref
  have hA := h.quiet (bel_new w (.cells #[.int .i64 k.1, .int .u32 k.2] 34))
  have hn := Bk.new w 34 #[.int .i64 k.1, .int .u32 k.2]
  have hb := h.st.bel.size
  obtain ⟨v', W', hrun, hown, hgr, _, hfr⟩ := run_append_own_at (P := Try.prog) _ w0.heap.size 32 32 34 j0 _ 2 16 Try.underlying32 hj hy0 hy1 hy2 rfl (by decide) (.slice pa q cg) q (rcls L) hA.row ⟨w.heap.size, 0, none⟩ 1 1 (rcl k) rfl (fun j u hj => by
      have e : (⟨w.heap.size, 0, none⟩ : Addr).add j = ⟨w.heap.size, j, none⟩ := by unfold Addr.add; split <;> simp_all
      rw [e, hn.cell]
      show (rcl k).toArray[j]? = some u
      simpa using hj) (rcl_one k) (by unfold maxLen; omega) (by omega) (by simp; omega)
  have hown2 : W'.ownsRow w0.heap.size 34 2 v' (q + 1) (rcls (L ++ [k])) := by rw [rcls_snoc]; exact hown
  obtain ⟨p', c', rfl⟩ := own_ref hown2
  have hk' : Kept (fun g => (Value.slice pa q cg).ownBlock = some g) (w.alloc (.cells #[.int .i64 k.1, .int .u32 k.2] 34)) W' := ⟨hgr.os, hgr.tape, hgr.output, hgr.size, fun k hk hs => hgr.block k hk fun e => hs e.symm⟩
  refine ⟨p', c', W', hrun, hA.beside hk' (fun g hg => ?_) (by rw [List.length_append, h.ll]; rfl) hown2 (fun r hr => ?_), fun B e cs he hB hne => ⟨(hB.below (bel_new w _)).kept hk' fun e => hne B e rfl, fun g e => ?_⟩⟩
  · obtain ⟨h1, cs, h2⟩ := row_any hA.row hg
    exact ⟨h1, _, cs, .inl rfl, h2⟩
  · rcases List.mem_append.1 hr with hr | hr
    · exact h.rr r hr
    · simp at hr; subst hr; exact hk
  · rcases hfr with e2 | e2
    · rw [e2] at e; exact hne g e
    · rw [e2] at e
      have e4 : (w.alloc (.cells #[.int .i64 k.1, .int .u32 k.2] 34)).heap.size = g := Option.some.inj e
      have e3 : (w.alloc (.cells #[.int .i64 k.1, .int .u32 k.2] 34)).heap.size = w.heap.size + 1 := by simp
      have := hB.lt
      omega
end
set_option maxHeartbeats 2000000 in
/-- A pair shows the same of all objects. -/
theorem whole_ok (b p t c d : Nat) (H : Hp) (w0 w : World) (h : PS w0 w b p t c d H) : Calls Try.prog 25 #[.pointer (some ⟨b, 0, none⟩), .pointer (some ⟨c, 0, none⟩)] w fun e w' => e = .returned (.bool true) ∧ Below w.heap.size w w' := by
  obtain ⟨n, hn⟩ : ∃ n, H.t.now.length = n := ⟨_, rfl⟩
  have hn256 : n ≤ 256 := by
    rw [← hn, H.t.now_len]
    have := H.t.held_len h.dw.ok.t
    have := h.dw.ok.t.hi
    omega
  have AL : Hid (Calls Try.prog 57 #[.pointer (some ⟨c, 0, none⟩)] w fun e w' => ∃ p c', e = .returned (.slice p n c') ∧ Hid (RdL w' p c' H.t.now) ∧ Below w.heap.size w w') := by
    refine (dh_all c d H w h.dw).mono ?_
    rintro e w' ⟨p, c', rfl, hrow, hb⟩
    exact ⟨p, c', by rw [hn], rdl_row hrow, hb⟩
  have SH : Hid (∀ x y W, Below w.heap.size w W → Calls Try.prog 24 #[.pointer (some ⟨b, 0, none⟩), .pointer (some ⟨c, 0, none⟩), .agg #[.int .i64 x, .int .u32 y]] W fun e w' => e = .returned (.bool true) ∧ Below W.heap.size W w') := fun x y W hW => shows_ok b p t c d H x y w0 W (h.quiet hW)
  have HN := Lib.hid hn
  clear h hn
  go_enter Try.func25, Try.ntmps25
  go_wp2_with (go_at_call 57; refine AL.out.mono ?_; rintro e w1 ⟨pA, cA, rfl, RD, hb⟩; have HB := Lib.hid hb; clear hb)
  go_loopw [6] (fun v wr => ∃ i : Nat, i ≤ n ∧ v = .int .i64 i ∧ Hid (Below w1.heap.size w1 wr)) (fun v _ => n - (intOf v).toNat)
  case atStart => exact ⟨0, Nat.zero_le _, rfl, Below.refl _ _⟩
  case round =>
    obtain ⟨i, hi, rfl, HI⟩ := hrel
    obtain ⟨wi, hwi⟩ : ∃ wi, wi = wr := ⟨_, rfl⟩
    subst hwi
    by_cases hlt : i < n
    · obtain ⟨⟨x, y⟩, hr⟩ : ∃ r, H.t.now[i]? = some r := ⟨_, List.getElem?_eq_getElem (by rw [HN.out]; exact hlt)⟩
      obtain ⟨g, rfl, h1, h2, h3⟩ := RD.out.below HI.out (by rw [HN.out]; omega)
      rw [HN.out] at h1
      obtain ⟨c0, c1⟩ := h3 i (x, y) hr
      simp only at c0 c1
      have hwi1 : IntKind.i64.wrap ((i : Int) + 1) = (i : Int) + 1 := by rw [IntKind.wrap_i64]; omega
      clear h3 hr
      go_wp2_with (go_at_call 24; refine (SH.out _ _ _ (dh_tr HB.out HI.out)).mono ?_; rintro e w2 ⟨rfl, hb2⟩; have HB2 := Lib.hid (dh_tr HI.out hb2); clear hb2)
      go_roundw
      case rel => exact ⟨i + 1, by omega, by go_num, HB2.out⟩
      case measure => simp [intOf]; omega
    · obtain rfl : i = n := by omega
      go_wp2_with (go_at_call 24; refine (SH.out _ _ _ (dh_tr HB.out HI.out)).mono ?_; rintro e w2 ⟨rfl, hb2⟩; have HB2 := Lib.hid (dh_tr (dh_tr HB.out HI.out) hb2); clear hb2)
      go_ret
      exact ⟨rfl, HB2.out⟩
end Go.Proofs.Ytfnhkapbfgofkaa
