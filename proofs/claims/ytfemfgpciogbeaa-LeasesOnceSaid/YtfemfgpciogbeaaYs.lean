/- A move of the statements' desk: what it leaves; the way where no id is free. -/
import Derived.Test.YtfemfgpciogbeaaYp
namespace Go.Proofs.Ytfemfgpciogbeaa
open Go.RowKit

/-- How a desk goes on: its size stays, a generation grows by at most one. -/
def Ev (D E : Dk) : Prop := E.t.n = D.t.n ∧ ∀ i, E.t.g i ≤ D.t.g i + 1
theorem Ev.refl (D : Dk) : Ev D D := ⟨rfl, fun _ => Nat.le_succ _⟩
theorem Ev.until (D : Dk) (i y : Nat) : Ev D (D.until i y) := ⟨rfl, fun _ => Nat.le_succ _⟩
theorem Ev.took (D : Dk) (i y : Nat) : Ev D (D.took i y) := ⟨rfl, fun _ => Nat.le_succ _⟩
theorem Ev.give (D : Dk) (i : Nat) : Ev D (D.give i) := by
  unfold Dk.give Tb.gave
  split
  · exact ⟨rfl, fun _ => Nat.le_succ _⟩
  · refine ⟨rfl, fun k => ?_⟩
    simp only [put]
    split
    · rename_i h; subst h; exact Nat.le_refl _
    · exact Nat.le_succ _
/-- What a move leaves. -/
def StP (w0 w : World) (X b k a : Nat) (pl pu : Option Addr) (okb : Bool) (j : Nat) (S : Lw) (w' : World) : Prop :=
  (∃ pl' cl' pu' cu' n' S', LW w0 w' X b k a pl' cl' pu' cu' n' okb j S' ∧ OneU S.U S'.U ∧ Ev S.D S'.D) ∧ Kept (LFt X b k a pl pu) w w'
theorem emod_nat (m n : Nat) : (m : Int) % (n : Int) = ((m % n : Nat) : Int) := by omega
theorem tmod_nat (m n : Nat) : (m : Int).tmod (n : Int) = ((m % n : Nat) : Int) := by
  rw [Int.tmod_eq_emod_of_nonneg (by omega)]; omega
/-- What a move's beginning leaves: the box, and the time that went on. -/
structure Beg (w0 w W : World) (X b k a : Nat) (pl : Option Addr) (cl : Nat) (pu : Option Addr) (cu n : Nat) (okb : Bool) (j : Nat) (S : Lw) (mw mk mi mt wt : Nat) : Prop where
  l : LW w0 W X b k a pl cl pu cu n okb (j + 1) ⟨S.D, S.L, S.U, S.now + wt⟩
  box : Bk W w.heap.size 68 #[.int .u8 mw, .int .u8 mk, .int .u8 mi, .int .u8 mt]
  kept : Kept (LFt X b k a pl pu) w W
  size : w.heap.size < W.heap.size
theorem Beg.of {w0 w : World} {X b k a cl cu n j : Nat} {pl pu : Option Addr} {okb : Bool} {S : Lw} (h : LW w0 w X b k a pl cl pu cu n okb j S) (mw mk mi mt wt : Nat) (hw : wt ≤ 7) :
    Beg w0 w ((w.alloc (.cells #[.int .u8 mw, .int .u8 mk, .int .u8 mi, .int .u8 mt] 68)).setCell ⟨X, 3, none⟩ (.int .i64 ((S.now : Int) + wt))).drew X b k a pl cl pu cu n okb j S mw mk mi mt wt := by
  have h1 := h.quiet (bal w (.cells #[.int .u8 mw, .int .u8 mk, .int .u8 mi, .int .u8 mt] 68))
  have h2 := h1.wait (y := wt) hw
  rw [Int.natCast_add] at h2
  have hX : w.heap.size ≠ X := by have := h.hx.lt; omega
  refine ⟨h2.quiet (bel_drew (Below.refl _ _)), ?_, (((Kept.refl _ w).alloc _).put (p := ⟨X, 3, none⟩) (.inr (.inl rfl)) _).drew, by simp⟩
  exact ((Bk.new w 68 _).same (Below.heap_setCell _ _ _ _ hX)).below (bel_drew (Below.refl _ _))
/-- What is left of a move, once it has begun. -/
theorem Beg.fin {w0 w W W' : World} {X b k a cl cu n j mw mk mi mt wt : Nat} {pl pu : Option Addr} {okb : Bool} {S : Lw} {S' : Lw} {pl' pu' : Option Addr} {cl' cu' n' : Nat} (h : Beg w0 w W X b k a pl cl pu cu n okb j S mw mk mi mt wt) (hl : LW w0 W' X b k a pl' cl' pu' cu' n' okb (j + 1) S') (ho : OneU S.U S'.U) (q : Kept (LFt X b k a pl pu) W W') (he : Ev S.D S'.D := by first | exact Ev.refl _ | exact Ev.give _ _ | exact Ev.until _ _ _ | assumption) : StP w0 w X b k a pl pu okb (j + 1) S W' :=
  ⟨⟨pl', cl', pu', cu', n', S', hl, ho, he⟩, h.kept.trans q⟩
/-- The statements' desk over a desk that has gone on. -/
structure D0 (w0 w : World) (X b k a : Nat) (pl : Option Addr) (cl : Nat) (pu : Option Addr) (cu n : Nat) (okb : Bool) (j : Nat) (D : Dk) (S : Lw) (wt : Nat) : Prop where
  ds : DSt w0 w b k a D
  hx : Bk w X 62 #[.pointer (some ⟨b, 0, none⟩), .slice pl n cl, .slice pu n cu, .int .i64 ((S.now : Int) + wt), .bool okb]
  hl : w.ownsRow w0.heap.size 33 3 (.slice pl n cl) n (ocls S.ls)
  hu : w.ownsRow w0.heap.size 2 1 (.slice pu n cu) n (us S.U)
  lo : w0.heap.size ≤ X
section
variable {w0 w w' : World} {X b k a cl cu n j wt : Nat} {pl pu : Option Addr} {okb : Bool} {D E : Dk} {S : Lw}
theorem D0.of (h : LW w0 w X b k a pl cl pu cu n okb j ⟨D, S.L, S.U, S.now + wt⟩) : D0 w0 w X b k a pl cl pu cu n okb j D S wt := ⟨h.ds, by have := h.hx; rw [Int.natCast_add] at this; exact this, h.hl, h.hu, h.lo⟩
theorem D0.call (h : LW w0 w X b k a pl cl pu cu n okb j ⟨D, S.L, S.U, S.now + wt⟩) (q : Kept (DFoot b k a) w w') (hs : DSt w0 w' b k a E) : D0 w0 w' X b k a pl cl pu cu n okb j E S wt :=
  ⟨hs, h.ds.f.keep (D0.of h).hx q, own_kept h.hl h.ds.f q, own_kept h.hu h.ds.f q, h.lo⟩
theorem D0.quiet (h : D0 w0 w X b k a pl cl pu cu n okb j D S wt) (q : Below w.heap.size w w') : D0 w0 w' X b k a pl cl pu cu n okb j D S wt := ⟨h.ds.quiet q, h.hx.below q, own_below h.hl q, own_below h.hu q, h.lo⟩
theorem D0.past {A : Nat} (h : D0 w0 w X b k a pl cl pu cu n okb j D S wt) (q : Kept (· = A) w w') (hA : ∀ g, LFt X b k a pl pu g → g ≠ A) (hlo : w0.heap.size ≤ A) : D0 w0 w' X b k a pl cl pu cu n okb j D S wt :=
  ⟨⟨h.ds.f.kept q (fun g hg => hA g (.inr (.inl hg))), h.ds.bel.trans (q.below h.ds.bel.size (by rintro g rfl; exact hlo)), h.ds.lo⟩, h.hx.kept q (hA X (.inl rfl)),
    own_same h.hl (fun g hg => q.block g (h.hl.lt g hg).2 (by
      cases pl with
      | none => cases hg
      | some ad => exact hA g (.inr (.inr (.inl ⟨ad, rfl, Option.some.inj hg⟩))))),
    own_same h.hu (fun g hg => q.block g (h.hu.lt g hg).2 (by
      cases pu with
      | none => cases hg
      | some ad => exact hA g (.inr (.inr (.inr ⟨ad, rfl, Option.some.inj hg⟩))))), h.lo⟩
theorem D0.cells (h : D0 w0 w X b k a pl cl pu cu n okb j D S wt) : w.cell? ⟨X, 0, none⟩ = some (.pointer (some ⟨b, 0, none⟩)) ∧ w.cell? ⟨X, 3, none⟩ = some (.int .i64 ((S.now : Int) + wt)) := ⟨h.hx.cell 0, h.hx.cell 3⟩
theorem D0.step (h : D0 w0 w X b k a pl cl pu cu n okb j D S wt) (q : Kept (DFoot b k a) w w') (hs : DSt w0 w' b k a E) : D0 w0 w' X b k a pl cl pu cu n okb j E S wt :=
  ⟨hs, h.ds.f.keep h.hx q, own_kept h.hl h.ds.f q, own_kept h.hu h.ds.f q, h.lo⟩
/-- What a way of a move reads: the desk's cells, a lease, its time. -/
theorem D0.reads {q u : Nat} {r : Nat × Nat} (h : D0 w0 w X b k a pl cl pu cu n okb j D S wt) (hn : S.L.length = n) (hm : S.U.length = n) (hr : S.L[q]? = some r) (hu : S.U[q]? = some u) : ∃ gl gu, pl = some ⟨gl, 0, none⟩ ∧ pu = some ⟨gu, 0, none⟩ ∧ gl < w.heap.size ∧ gu < w.heap.size ∧ w.cell? ⟨gl, q * 3, none⟩ = some (.int .i64 3) ∧ w.cell? ⟨gl, q * 3 + 1, none⟩ = some (.int .i64 r.1) ∧ w.cell? ⟨gl, q * 3 + 2, none⟩ = some (.int .u32 r.2) ∧ w.cell? ⟨gu, q, none⟩ = some (.int .i64 u) ∧ w.frozen? ⟨gu, q, none⟩ = false := by
  obtain ⟨gl, e1, a1, a2, a3, a4⟩ := row_atl h.hl hn hr
  obtain ⟨gu, e2, b1, b2, b3⟩ := row_atu h.hu hm hu
  exact ⟨gl, gu, e1, e2, a1, b1, a2, a3, a4, b2, b3⟩
theorem D0.five (h : D0 w0 w X b k a pl cl pu cu n okb j D S wt) : w.cell? ⟨X, 0, none⟩ = some (.pointer (some ⟨b, 0, none⟩)) ∧ w.cell? ⟨X, 1, none⟩ = some (.slice pl n cl) ∧ w.cell? ⟨X, 2, none⟩ = some (.slice pu n cu) ∧ w.cell? ⟨X, 3, none⟩ = some (.int .i64 ((S.now : Int) + wt)) ∧ X < w.heap.size := ⟨h.hx.cell 0, h.hx.cell 1, h.hx.cell 2, h.hx.cell 3, h.hx.lt⟩
/-- A time is stored. -/
theorem D0.storeu {g q y : Nat} (h : D0 w0 w X b k a pl cl (some ⟨g, 0, none⟩) cu n okb j D S wt) : D0 w0 (w.setCell ⟨g, q, none⟩ (.int .i64 y)) X b k a pl cl (some ⟨g, 0, none⟩) cu n okb j D ⟨S.D, S.L, S.U.set q y, S.now⟩ wt ∧ Kept (LFt X b k a pl (some ⟨g, 0, none⟩)) w (w.setCell ⟨g, q, none⟩ (.int .i64 y)) := by
  have hu := h.hu
  rcases hu.2 with ⟨e2, _⟩ | ⟨g', cap, cur, e2, hlo, h2, _⟩
  · simp at e2
  · simp at e2
    obtain ⟨rfl, rfl⟩ := e2
    have hb : Bk w g 2 cur := h2
    have hk : Kept (· = g) w (w.setCell ⟨g, q, none⟩ (.int .i64 y)) := (Kept.refl _ w).put1 q _
    have hoff : ¬ DFoot b k a g := h.ds.f.off hb (by decide) (by decide) (by decide)
    have hXg : X ≠ g := by rintro rfl; exact absurd (hb.uniq h.hx).1 (by decide)
    refine ⟨⟨⟨h.ds.f.kept hk (fun z hz e => hoff (e ▸ hz)), h.ds.bel.setCell (p := ⟨g, q, none⟩) hlo _, h.ds.lo⟩, h.hx.kept hk hXg, ?_, ?_, h.lo⟩, hk.mono fun _ _ e => .inr (.inr (.inr ⟨_, rfl, e.symm⟩))⟩
    · exact own_same h.hl fun z hz => Below.heap_setCell _ _ _ _ (fun e => by
        have e2 : z = g := e
        exact absurd (own_type h.hl (by rw [← e2]; exact hz) hb) (by decide))
    · have := (hu.stored q (.int .i64 (y : Int))).1
      rw [us_set] at this
      exact this
theorem D0.belr (_h : D0 w0 w X b k a pl cl pu cu n okb j D S wt) : Below w.heap.size w w := Below.refl _ _
theorem D0.c1 (h : D0 w0 w X b k a pl cl pu cu n okb j D S wt) : w.cell? ⟨X, 1, none⟩ = some (.slice pl n cl) ∧ X < w.heap.size := ⟨h.hx.cell 1, h.hx.lt⟩
theorem D0.to (h : D0 w0 w X b k a pl cl pu cu n okb j D S wt) (ho : Lw.Ok ⟨D, S.L, S.U, S.now + wt⟩ j) (hn : S.L.length = n) : LW w0 w X b k a pl cl pu cu n okb j ⟨D, S.L, S.U, S.now + wt⟩ :=
  ⟨ho, hn, h.ds, by have := h.hx; rw [← Int.natCast_add] at this; exact this, h.hl, h.hu, h.lo⟩
end
theorem StP.self {P : Nat → Prop} {w w' W : World} {A : Nat} (h : Kept P w W) (q : Kept (· = A) W w') (hA : w.heap.size ≤ A := by first | exact Nat.le_refl _ | omega) : Kept P w w' := h.self (q.mono fun _ _ e => .inr (by rw [e]; exact hA))
theorem kept_desk {X b k a : Nat} {pl pu : Option Addr} {w w' : World} (q : Kept (DFoot b k a) w w') : Kept (LFt X b k a pl pu) w w' := q.mono fun _ _ e => .inr (.inl e)

set_option maxRecDepth 1000000 in
set_option maxHeartbeats 4000000 in
theorem step_full {w0 w : World} {X b k a cl cu n j : Nat} {pl pu : Option Addr} {okb : Bool} {S : Lw} (h : LW w0 w X b k a pl cl pu cu n okb j S) (hj : j ≤ 150) (mw mk mi mt : Nat) (_m1 : mw ≤ 255) (_m2 : mk ≤ 255) (_m3 : mi ≤ 255) (_m4 : mt ≤ 255) (hk : mk % 4 < 2 ∨ n = 0) (hf : S.D.t.free = []) :
    Calls Try.prog 34 #[.pointer (some ⟨X, 0, none⟩), .agg #[.int .u8 mw, .int .u8 mk, .int .u8 mi, .int .u8 mt]] w fun e w' => e = .returned (.bool true) ∧ Hid (StP w0 w X b k a pl pu okb (j + 1) S w') := by
  have h1 := h.quiet (bal w (.cells #[.int .u8 mw, .int .u8 mk, .int .u8 mi, .int .u8 mt] 68))
  obtain ⟨c0, c1, c2, c3, c4, c5⟩ := h1.cells
  have f3 := h1.fz 3
  have hbox := Bk.new w 68 #[.int .u8 mw, .int .u8 mk, .int .u8 mi, .int .u8 mt]
  have b0 := hbox.cell 0
  simp only [List.getElem?_toArray, List.getElem?_cons_zero] at b0
  have hnow := h.ok.now
  have hll := h.ok.ll
  have hln := h.ln
  obtain ⟨wt, hw⟩ : ∃ x, mw % 8 = x := ⟨_, rfl⟩
  obtain ⟨kd, hkd⟩ : ∃ x, mk % 4 = x := ⟨_, rfl⟩
  obtain ⟨tk, htk⟩ : ∃ x, mt % 16 = x := ⟨_, rfl⟩
  have w1 : (mw : Int).tmod 8 = (wt : Int) := by rw [← hw]; exact tmod_nat _ 8
  have w2 : (mw : Int) % 8 = (wt : Int) := by rw [← hw]; exact emod_nat _ 8
  have k1 : (mk : Int).tmod 4 = (kd : Int) := by rw [← hkd]; exact tmod_nat _ 4
  have k2 : (mk : Int) % 4 = (kd : Int) := by rw [← hkd]; exact emod_nat _ 4
  have t1 : (mt : Int).tmod 16 = (tk : Int) := by rw [← htk]; exact tmod_nat _ 16
  have t2 : (mt : Int) % 16 = (tk : Int) := by rw [← htk]; exact emod_nat _ 16
  have wb : (wt : Int) ≤ 7 := by omega
  have kb : (kd : Int) ≤ 3 := by omega
  have tb : (tk : Int) ≤ 15 := by omega
  have nb : (S.now : Int) ≤ 1050 := by omega
  have BG := Beg.of h mw mk mi mt wt (by omega)
  obtain ⟨Wb, hWb⟩ : ∃ W, ((w.alloc (.cells #[.int .u8 mw, .int .u8 mk, .int .u8 mi, .int .u8 mt] 68)).setCell ⟨X, 3, none⟩ (.int .i64 ((S.now : Int) + wt))).drew = W := ⟨_, rfl⟩
  rw [hWb] at BG
  have HWb := Lib.hid hWb
  have BH := Lib.hid BG
  have lnz : (n : Int) ≤ 150 := by omega
  have hkk : (kd : Int) < 2 ∨ ((2 : Int) ≤ kd ∧ n = 0) := by omega
  have GR : Hid (∀ W, DSt w0 W b k a S.D → Calls Try.prog 13 #[.pointer (some ⟨b, 0, none⟩), .int .i64 (1 + (tk : Int)), .int .i64 ((S.now : Int) + wt)] W fun e w' => e = .returned (.tuple #[.agg #[.int .i64 0, .int .i64 0, .int .u32 0], .int .i64 4]) ∧ Hid (DSt w0 w' b k a S.D) ∧ Hid (Kept (DFoot b k a) W w')) := fun W hW => by
    have hE := Dk.gE_full (D := S.D) (x := 1 + (tk : Int)) (now := (S.now : Int) + wt) ⟨by omega, by omega⟩ ⟨by omega, by omega⟩ (by omega) hf
    obtain ⟨n1, n2, n3, n4⟩ := Dk.grant_ne (D := S.D) (x := 1 + (tk : Int)) (now := (S.now : Int) + wt) (by rw [hE]; decide)
    have := grant_s _ _ 0 0 0 4 hW (by rw [n2]; rfl) (by rw [n3]; rfl) (by rw [n4]; rfl) hE
    rw [n1] at this
    exact this
  have HLN := Lib.hid h.ln
  clear hk hf
  clear h h1 hbox hnow hll hln hw hkd htk hWb BG _m1 _m2 _m3 _m4
  go_enter Try.func34, Try.ntmps34
  go_wp2
  go_region
  rw [HWb.out]
  clear c0 c1 c2 c3 c4 c5 f3 b0
  obtain ⟨c0, c1, c2, c3, c4, c5⟩ := BH.out.l.cells
  have b1 := BH.out.box.cell 1
  have b2 := BH.out.box.cell 2
  have b3 := BH.out.box.cell 3
  simp only [List.getElem?_toArray, List.getElem?_cons_zero, List.getElem?_cons_succ, Int.natCast_add] at b1 b2 b3 c3
  have bl := BH.out.size
  have FC : Hid (∀ W D, D0 w0 W X b k a pl cl pu cu n okb (j + 1) D S wt → W.cell? ⟨X, 0, none⟩ = some (.pointer (some ⟨b, 0, none⟩)) ∧ W.cell? ⟨X, 3, none⟩ = some (.int .i64 ((S.now : Int) + wt))) := fun W D h => h.cells
  have L0 : Hid (LW w0 Wb.drew X b k a pl cl pu cu n okb (j + 1) ⟨S.D, S.L, S.U, S.now + wt⟩) := BH.out.l.quiet (bel_drew (Below.refl _ _))
  have L1 : Hid (LW w0 ((Wb.alloc (.cells #[.int .i64 0, .int .i64 0, .int .u32 0] 33)).drew) X b k a pl cl pu cu n okb (j + 1) ⟨S.D, S.L, S.U, S.now + wt⟩) := (BH.out.l.quiet (bal _ _)).quiet (bel_drew (Below.refl _ _))
  have O1 : Hid (Bk ((Wb.alloc (.cells #[.int .i64 0, .int .i64 0, .int .u32 0] 33)).drew) Wb.heap.size 33 #[.int .i64 0, .int .i64 0, .int .u32 0]) := (Bk.new Wb _ _).below (bel_drew (Below.refl _ _))
  have K1 : Hid (Kept (LFt X b k a pl pu) Wb ((Wb.alloc (.cells #[.int .i64 0, .int .i64 0, .int .u32 0] 33)).drew)) := ((Kept.refl _ Wb).alloc _).drew
  have hz0 := FC.out _ _ (D0.of BH.out.l)
  have hz2 := FC.out _ _ (D0.of L1.out)
  have PA : Hid (w0.heap.size ≤ Wb.heap.size ∧ ∀ g, LFt X b k a pl pu g → g ≠ Wb.heap.size) := ⟨BH.out.l.bel.size, fun g hg e => absurd (BH.out.l.foot hg) (by omega)⟩
  rcases hkk with hkk | ⟨hkk, rfl⟩
  · go_wp2
    go_region_held3 (fun W => W.cell? ⟨X, 0, none⟩ = some (.pointer (some ⟨b, 0, none⟩)) ∧ W.cell? ⟨X, 3, none⟩ = some (.int .i64 ((S.now : Int) + wt))) (first | (with_reducible exact hz5) | (with_reducible exact hz4) | (with_reducible exact hz3 _) | (with_reducible exact hz1) | (with_reducible exact hz2) | (exact hz0)) (first
      | (go_at_call 13; (with_reducible refine (GR.out _ L0.out.ds).mono ?_); rintro e w5 ⟨rfl, S5, K5⟩; have L5 := Lib.hid (D0.call L0.out K5.out S5.out); have hz1 := FC.out w5 _ L5.out; have hz3 := fun x => FC.out (w5.alloc x) _ (L5.out.quiet (bal _ _)); have OW := Lib.hid (And.intro (L5.out.quiet (bal w5 (.cells #[(.int .i64 0), (.int .i64 0), (.int .u32 0)] 33))) (And.intro (Bk.new w5 33 #[(.int .i64 0), (.int .i64 0), (.int .u32 0)]) (((Kept.refl _ Wb).drew.trans (kept_desk (X := X) (pl := pl) (pu := pu) K5.out)).alloc (.cells #[(.int .i64 0), (.int .i64 0), (.int .u32 0)] 33)))); clear S5)
      | (go_at_call 13; (with_reducible refine (GR.out _ L1.out.ds).mono ?_); rintro e w6 ⟨rfl, S6, K6⟩; have L6 := Lib.hid (D0.call L1.out K6.out S6.out); have hz4 := FC.out w6 _ L6.out; have O6 := Lib.hid (L1.out.ds.box O1.out K6.out); obtain ⟨d0, d1, d2, e0, e1, e2⟩ := laid3 O6.out; have hl6 := O6.out.lt; have T6 := three_put O6.out (.int .i64 0) (.int .i64 0) (.int .u32 0); have L7 := L6.out.past ((((Kept.refl (· = Wb.heap.size) w6).put1 0 (.int .i64 0)).put1 1 (.int .i64 0)).put1 2 (.int .u32 0)) PA.out.2 PA.out.1; have hz5 := FC.out _ _ L7; have OW := Lib.hid (And.intro L7 (And.intro T6 (StP.self (K1.out.trans (kept_desk (X := X) (pl := pl) (pu := pu) K6.out)) ((((Kept.refl (· = Wb.heap.size) w6).put1 0 (.int .i64 0)).put1 1 (.int .i64 0)).put1 2 (.int .u32 0))))); clear S6 T6 L7))
    all_goals
      clear hz0 hz2 c0 c1 c2 c3 c4 c5 b1 b2 b3
      obtain ⟨u0, u1, u2, u3⟩ := ob_cells OW.out.2.1
      go_wp2
      go_ret
      exact ⟨rfl, BH.out.fin (OW.out.1.to BH.out.l.ok HLN.out) (.inl rfl) OW.out.2.2⟩
  · go_wp2
    go_region_held3 (fun W => W.cell? ⟨X, 0, none⟩ = some (.pointer (some ⟨b, 0, none⟩)) ∧ W.cell? ⟨X, 3, none⟩ = some (.int .i64 ((S.now : Int) + wt))) (first | (with_reducible exact hz5) | (with_reducible exact hz4) | (with_reducible exact hz3 _) | (with_reducible exact hz1) | (with_reducible exact hz2) | (exact hz0)) (first
      | (go_at_call 13; (with_reducible refine (GR.out _ L0.out.ds).mono ?_); rintro e w5 ⟨rfl, S5, K5⟩; have L5 := Lib.hid (D0.call L0.out K5.out S5.out); have hz1 := FC.out w5 _ L5.out; have hz3 := fun x => FC.out (w5.alloc x) _ (L5.out.quiet (bal _ _)); have OW := Lib.hid (And.intro (L5.out.quiet (bal w5 (.cells #[(.int .i64 0), (.int .i64 0), (.int .u32 0)] 33))) (And.intro (Bk.new w5 33 #[(.int .i64 0), (.int .i64 0), (.int .u32 0)]) (((Kept.refl _ Wb).drew.trans (kept_desk (X := X) (pl := pl) (pu := pu) K5.out)).alloc (.cells #[(.int .i64 0), (.int .i64 0), (.int .u32 0)] 33)))); clear S5)
      | (go_at_call 13; (with_reducible refine (GR.out _ L1.out.ds).mono ?_); rintro e w6 ⟨rfl, S6, K6⟩; have L6 := Lib.hid (D0.call L1.out K6.out S6.out); have hz4 := FC.out w6 _ L6.out; have O6 := Lib.hid (L1.out.ds.box O1.out K6.out); obtain ⟨d0, d1, d2, e0, e1, e2⟩ := laid3 O6.out; have hl6 := O6.out.lt; have T6 := three_put O6.out (.int .i64 0) (.int .i64 0) (.int .u32 0); have L7 := L6.out.past ((((Kept.refl (· = Wb.heap.size) w6).put1 0 (.int .i64 0)).put1 1 (.int .i64 0)).put1 2 (.int .u32 0)) PA.out.2 PA.out.1; have hz5 := FC.out _ _ L7; have OW := Lib.hid (And.intro L7 (And.intro T6 (StP.self (K1.out.trans (kept_desk (X := X) (pl := pl) (pu := pu) K6.out)) ((((Kept.refl (· = Wb.heap.size) w6).put1 0 (.int .i64 0)).put1 1 (.int .i64 0)).put1 2 (.int .u32 0))))); clear S6 T6 L7))
    all_goals
      clear hz0 hz2 c0 c1 c2 c3 c4 c5 b1 b2 b3
      obtain ⟨u0, u1, u2, u3⟩ := ob_cells OW.out.2.1
      go_wp2
      go_ret
      exact ⟨rfl, BH.out.fin (OW.out.1.to BH.out.l.ok HLN.out) (.inl rfl) OW.out.2.2⟩
end Go.Proofs.Ytfemfgpciogbeaa
