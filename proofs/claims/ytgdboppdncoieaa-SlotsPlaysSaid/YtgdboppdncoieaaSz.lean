/- The table of the program and the document's, or none of both: what a call answers; the helper alike. -/
import Derived.Test.YtgdboppdncoieaaSv
import Derived.Deep.RegionHeld3
import Derived.StillTailTactics
namespace Go.Proofs.Ytgdboppdncoieaa
open Go.RowKit

theorem rretired_nil (w : World) : Calls Try.prog 41 #[.pointer none] w fun e w' => e = .returned (.int .i64 0) ∧ w = w' := by
  go_enter Try.func41, Try.ntmps41
  go_wp2_with (go_at_call 48; refine (rcount_nil _ _).mono ?_; rintro e w' ⟨rfl, rfl⟩)
  go_ret
  exact ⟨rfl, rfl⟩
theorem rfree_nil (w : World) : Calls Try.prog 40 #[.pointer none] w fun e w' => e = .returned (.int .i64 0) ∧ w = w' := by
  go_enter Try.func40, Try.ntmps40
  go_wp2_with (go_at_call 48; refine (rcount_nil _ _).mono ?_; rintro e w' ⟨rfl, rfl⟩)
  go_ret
  exact ⟨rfl, rfl⟩
theorem rlen_nil (w : World) : Calls Try.prog 39 #[.pointer none] w fun e w' => e = .returned (.int .i64 0) ∧ w = w' := by
  go_enter Try.func39, Try.ntmps39
  go_wp2_with (go_at_call 48; refine (rcount_nil _ _).mono ?_; rintro e w' ⟨rfl, rfl⟩)
  go_ret
  exact ⟨rfl, rfl⟩
theorem rretired_ok (b d : Nat) (T : Tb) (w : World) (h : RefW w b d T) : Calls Try.prog 41 #[.pointer (some ⟨b, 0, none⟩)] w fun e w' => e = .returned (.int .i64 (sel T.s 2 T.n).length) ∧ w = w' := by
  go_enter Try.func41, Try.ntmps41
  go_wp2_with (go_at_call 48; refine (rcount_ok b d T 2 _ h).mono ?_; rintro e w' ⟨rfl, rfl⟩)
  go_ret
  exact ⟨rfl, rfl⟩
theorem rfree_ok (b d : Nat) (T : Tb) (w : World) (h : RefW w b d T) : Calls Try.prog 40 #[.pointer (some ⟨b, 0, none⟩)] w fun e w' => e = .returned (.int .i64 (sel T.s 0 T.n).length) ∧ w = w' := by
  go_enter Try.func40, Try.ntmps40
  go_wp2_with (go_at_call 48; refine (rcount_ok b d T 0 _ h).mono ?_; rintro e w' ⟨rfl, rfl⟩)
  go_ret
  exact ⟨rfl, rfl⟩
theorem rlen_ok (b d : Nat) (T : Tb) (w : World) (h : RefW w b d T) : Calls Try.prog 39 #[.pointer (some ⟨b, 0, none⟩)] w fun e w' => e = .returned (.int .i64 (sel T.s 1 T.n).length) ∧ w = w' := by
  go_enter Try.func39, Try.ntmps39
  go_wp2_with (go_at_call 48; refine (rcount_ok b d T 1 _ h).mono ?_; rintro e w' ⟨rfl, rfl⟩)
  go_ret
  exact ⟨rfl, rfl⟩

/-- The program's table: none, or one in a block of its own. -/
def TabO (w : World) (B : Nat) (a : Option Addr) : Option Tb → Prop
  | none => a = none
  | some T => ∃ b, B ≤ b ∧ a = some ⟨b, 0, none⟩ ∧ TabW w b T
/-- The document's table: none, or one in two blocks of its own. -/
def RefO (w : World) (B : Nat) (a : Option Addr) : Option Tb → Prop
  | none => a = none
  | some T => ∃ c d, B ≤ c ∧ B ≤ d ∧ a = some ⟨c, 0, none⟩ ∧ RefW w c d T
theorem TabO.below {w w' : World} {B : Nat} {a : Option Addr} {o : Option Tb} (h : TabO w B a o) (k : Below w.heap.size w w') : TabO w' B a o := by
  cases o with
  | none => exact h
  | some T => obtain ⟨b, h1, h2, h3⟩ := h; exact ⟨b, h1, h2, h3.below k⟩
theorem RefO.below {w w' : World} {B : Nat} {a : Option Addr} {o : Option Tb} (h : RefO w B a o) (k : Below w.heap.size w w') : RefO w' B a o := by
  cases o with
  | none => exact h
  | some T => obtain ⟨c, d, h1, h2, h3, h4⟩ := h; exact ⟨c, d, h1, h2, h3, h4.below k⟩
def oChk (o : Option Tb) (i g : Int) : Int := match o with | none => 1 | some T => T.chk i g
def oGen (o : Option Tb) (i : Int) : Int := match o with | none => 0 | some T => T.gen i
def oGenE (o : Option Tb) (i : Int) : Int := match o with | none => 1 | some T => T.genE i
def oLen (v : Nat) (o : Option Tb) : Nat := match o with | none => 0 | some T => (sel T.s v T.n).length
def oNow (o : Option Tb) : List (Nat × Nat) := match o with | none => [] | some T => T.now
def oTI (o : Option Tb) : Nat := match o with | none => 0 | some T => T.tI
def oTG (o : Option Tb) : Nat := match o with | none => 0 | some T => T.tG
def oTE (o : Option Tb) : Int := match o with | none => 1 | some T => T.tE

section
variable {w : World} {B : Nat} {a : Option Addr} {o : Option Tb}
theorem check_o (i g : Int) (h : TabO w B a o) : Calls Try.prog 16 #[.pointer a, .agg #[.int .i64 i, .int .u32 g]] w fun e w' => e = .returned (.int .i64 (oChk o i g)) ∧ Below w.heap.size w w' := by
  cases o with
  | none => exact check_inv a i g w (.inl h)
  | some T => obtain ⟨b, _, rfl, h3⟩ := h; exact check_any b T i g w h3
theorem rcheck_o (i g : Int) (h : RefO w B a o) : Calls Try.prog 17 #[.pointer a, .agg #[.int .i64 i, .int .u32 g]] w fun e w' => e = .returned (.int .i64 (oChk o i g)) ∧ Below w.heap.size w w' := by
  cases o with
  | none => rw [show a = none from h]; exact rchk_nil i g w
  | some T => obtain ⟨c, d, _, _, rfl, h3⟩ := h; exact rchk_any c d T i g w h3
theorem gen_o (i : Int) (h : TabO w B a o) : Calls Try.prog 23 #[.pointer a, .int .i64 i] w fun e w' => e = .returned (.tuple #[.int .u32 (oGen o i), .int .i64 (oGenE o i)]) ∧ w = w' := by
  cases o with
  | none => exact gen_inv a i w (.inl h)
  | some T => obtain ⟨b, _, rfl, h3⟩ := h; exact gen_any b T i w h3
theorem rgen_o (i : Int) (h : RefO w B a o) : Calls Try.prog 38 #[.pointer a, .int .i64 i] w fun e w' => e = .returned (.tuple #[.int .u32 (oGen o i), .int .i64 (oGenE o i)]) ∧ w = w' := by
  cases o with
  | none => rw [show a = none from h]; exact rgen_nil i w
  | some T => obtain ⟨c, d, _, _, rfl, h3⟩ := h; exact rgen_any c d T i w h3
theorem len_o (h : TabO w B a o) : Calls Try.prog 26 #[.pointer a] w fun e w' => e = .returned (.int .i64 (oLen 1 o)) ∧ Below w.heap.size w w' := by
  cases o with
  | none => exact len_inv a w (.inl h)
  | some T => obtain ⟨b, _, rfl, h3⟩ := h; exact len_ok b T w h3
theorem free_o (h : TabO w B a o) : Calls Try.prog 25 #[.pointer a] w fun e w' => e = .returned (.int .i64 (oLen 0 o)) ∧ Below w.heap.size w w' := by
  cases o with
  | none => exact free_inv a w (.inl h)
  | some T => obtain ⟨b, _, rfl, h3⟩ := h; exact free_ok b T w h3
theorem retired_o (h : TabO w B a o) : Calls Try.prog 24 #[.pointer a] w fun e w' => e = .returned (.int .i64 (oLen 2 o)) ∧ Below w.heap.size w w' := by
  cases o with
  | none => exact retired_inv a w (.inl h)
  | some T => obtain ⟨b, _, rfl, h3⟩ := h; exact retired_ok b T w h3
theorem rlen_o (h : RefO w B a o) : Calls Try.prog 39 #[.pointer a] w fun e w' => e = .returned (.int .i64 (oLen 1 o)) ∧ w = w' := by
  cases o with
  | none => rw [show a = none from h]; exact rlen_nil w
  | some T => obtain ⟨c, d, _, _, rfl, h3⟩ := h; exact rlen_ok c d T w h3
theorem rfree_o (h : RefO w B a o) : Calls Try.prog 40 #[.pointer a] w fun e w' => e = .returned (.int .i64 (oLen 0 o)) ∧ w = w' := by
  cases o with
  | none => rw [show a = none from h]; exact rfree_nil w
  | some T => obtain ⟨c, d, _, _, rfl, h3⟩ := h; exact rfree_ok c d T w h3
theorem rretired_o (h : RefO w B a o) : Calls Try.prog 41 #[.pointer a] w fun e w' => e = .returned (.int .i64 (oLen 2 o)) ∧ w = w' := by
  cases o with
  | none => rw [show a = none from h]; exact rretired_nil w
  | some T => obtain ⟨c, d, _, _, rfl, h3⟩ := h; exact rretired_ok c d T w h3
theorem sr_nil (w : World) : Sr w (.slice none 0 0) [] := ⟨none, 0, rfl, fun h => by simp at h⟩
theorem taken_o (h : TabO w B a o) : Calls Try.prog 27 #[.pointer a] w (TkS (oNow o) w) := by
  cases o with
  | none => exact (taken_inv a w (.inl h)).mono fun _ _ ⟨k1, k2⟩ => ⟨none, 0, k1, sr_nil _, k2⟩
  | some T => obtain ⟨b, _, rfl, h3⟩ := h; exact taken_s b T w h3
theorem rtaken_o (h : RefO w B a o) : Calls Try.prog 43 #[.pointer a] w (TkS (oNow o) w) := by
  cases o with
  | none => rw [show a = none from h]; exact (rtaken_nil w).mono fun _ _ ⟨k1, k2⟩ => ⟨none, 0, k1, sr_nil _, by subst k2; exact Below.refl _ _⟩
  | some T => obtain ⟨c, d, _, _, rfl, h3⟩ := h; exact rtaken_ok c d T w h3
theorem oNow_len (h : TabO w B a o) : (oNow o).length ≤ 256 := by
  cases o with
  | none => exact Nat.zero_le _
  | some T => obtain ⟨b, _, _, h3⟩ := h; show T.now.length ≤ 256; rw [Tb.now_len]; exact T.held_len h3.ok
end

set_option maxRecDepth 100000 in
set_option maxHeartbeats 4000000 in
theorem alike_ok (slot : Int) (w : World) (B : Nat) (a r : Option Addr) (o : Option Tb) (h1 : TabO w B a o) (h2 : RefO w B r o) :
    Calls Try.prog 22 #[.pointer a, .pointer r, .int .i64 slot] w fun e w' => e = .returned (.bool true) ∧ Below w.heap.size w w' := by
  have H1 := Lib.hid h1
  have H2 := Lib.hid h2
  have HL := Lib.hid (oNow_len h1)
  clear h1 h2
  go_enter Try.func22, Try.ntmps22
  go_wp2_with fail
  refine (gen_o slot H1.out).mono ?_
  rintro e w1 ⟨rfl, rfl⟩
  go_wp2_with fail
  refine (rgen_o slot H2.out).mono ?_
  rintro e w1 ⟨rfl, rfl⟩
  generalize oGen o slot = x
  generalize oGenE o slot = y
  have hx : (x == x) = true := by simp
  have hy : (y == y) = true := by simp
  go_wp2_with fail
  refine (len_o H1.out).mono ?_
  rintro e w1 ⟨rfl, hb1⟩
  have A1 := Lib.hid (H1.out.below hb1)
  have R1 := Lib.hid (H2.out.below hb1)
  have B1 := Lib.hid hb1
  clear hb1
  go_wp2_with fail
  refine (rlen_o R1.out).mono ?_
  rintro e w2 ⟨rfl, rfl⟩
  generalize oLen 1 o = n1
  have hn1 : ((n1 : Int) == (n1 : Int)) = true := by simp
  go_wp2_with fail
  refine (free_o A1.out).mono ?_
  rintro e w2 ⟨rfl, hb2⟩
  have A2 := Lib.hid (A1.out.below hb2)
  have R2 := Lib.hid (R1.out.below hb2)
  have B2 := Lib.hid (bel2 B1.out hb2)
  clear hb2 A1 R1 B1
  go_wp2_with fail
  refine (rfree_o R2.out).mono ?_
  rintro e w3 ⟨rfl, rfl⟩
  generalize oLen 0 o = n2
  have hn2 : ((n2 : Int) == (n2 : Int)) = true := by simp
  go_wp2_with fail
  refine (retired_o A2.out).mono ?_
  rintro e w3 ⟨rfl, hb3⟩
  have A3 := Lib.hid (A2.out.below hb3)
  have R3 := Lib.hid (R2.out.below hb3)
  have B3 := Lib.hid (bel2 B2.out hb3)
  clear hb3 A2 R2 B2
  go_wp2_with fail
  refine (rretired_o R3.out).mono ?_
  rintro e w4 ⟨rfl, rfl⟩
  generalize oLen 2 o = n3
  have hn3 : ((n3 : Int) == (n3 : Int)) = true := by simp
  go_wp2_with fail
  refine (taken_o A3.out).mono ?_
  rintro e w4 ⟨a4, c4, rfl, hs4, hb4⟩
  have R4 := Lib.hid (R3.out.below hb4)
  have B4 := Lib.hid (bel2 B3.out hb4)
  have S4 := Lib.hid hs4
  clear hb4 hs4 A3 R3 B3
  go_wp2_with fail
  refine (rtaken_o R4.out).mono ?_
  rintro e w5 ⟨a5, c5, rfl, hs5, hb5⟩
  have B5 := Lib.hid (bel2 B4.out hb5)
  have S5 := Lib.hid (S4.out.below hb5)
  have T5 := Lib.hid hs5
  clear hb5 hs5 R4 B4 S4
  go_wp2_with fail
  refine (same_ok _ _ _ _ HL.out S5.out T5.out).mono ?_
  rintro e w6 ⟨rfl, hb6⟩
  go_wp2
  go_ret
  exact ⟨rfl, bel2 B5.out hb6⟩

/-! ### Both tables, and the box of the step -/
theorem RefO.keptT {w w' : World} {B b : Nat} {a : Option Addr} {o : Option Tb} {T : Tb} (h : RefO w B a o) (ht : TabW w b T) (k : Kept (· = b) w w') : RefO w' B a o := by
  cases o with
  | none => exact h
  | some U =>
    obtain ⟨c, d, h1, h2, h3, h4⟩ := h
    obtain ⟨_, _, k1, k2, _⟩ := h4.at_
    exact ⟨c, d, h1, h2, h3, h4.kept k (by rintro rfl; exact absurd (k1.uniq ht.bk).1 (by decide)) (by rintro rfl; exact absurd (k2.uniq ht.bk).1 (by decide))⟩
theorem TabO.keptR {w w' : World} {B c d : Nat} {a : Option Addr} {o : Option Tb} {T : Tb} (h : TabO w B a o) (ht : RefW w c d T) (k : Kept (· = d) w w') : TabO w' B a o := by
  cases o with
  | none => exact h
  | some U =>
    obtain ⟨b, h1, h2, h3⟩ := h
    obtain ⟨_, _, k1, k2, _⟩ := ht.at_
    exact ⟨b, h1, h2, h3.kept k (by rintro rfl; exact absurd (h3.bk.uniq k2).1 (by decide))⟩
structure PSt (w0 w : World) (a r : Option Addr) (o1 o2 : Option Tb) : Prop where
  t : TabO w w0.heap.size a o1
  r : RefO w w0.heap.size r o2
  bel : Below w0.heap.size w0 w
structure SSt (w0 w : World) (a r : Option Addr) (o1 o2 : Option Tb) (X : Nat) (cs : Array Value) : Prop where
  p : PSt w0 w a r o1 o2
  x : Bk w X 35 cs
theorem PSt.quiet {w0 w w' : World} {a r : Option Addr} {o1 o2 : Option Tb} (h : PSt w0 w a r o1 o2) (k : Below w.heap.size w w') : PSt w0 w' a r o1 o2 := ⟨h.t.below k, h.r.below k, bel2 h.bel k⟩
theorem SSt.quiet {w0 w w' : World} {a r : Option Addr} {o1 o2 : Option Tb} {X : Nat} {cs : Array Value} (h : SSt w0 w a r o1 o2 X cs) (k : Below w.heap.size w w') : SSt w0 w' a r o1 o2 X cs := ⟨h.p.quiet k, h.x.below k⟩
def oGive (o : Option Tb) (i g : Int) : Option Tb := o.map fun T => T.given i g
def oTake (o : Option Tb) : Option Tb := o.map Tb.take
section
variable {w0 w : World} {a r : Option Addr} {o1 o2 : Option Tb} {X : Nat} {cs : Array Value}
theorem check_p (i g : Int) (h : SSt w0 w a r o1 o2 X cs) : Calls Try.prog 16 #[.pointer a, .agg #[.int .i64 i, .int .u32 g]] w fun e w' => e = .returned (.int .i64 (oChk o1 i g)) ∧ Hid (SSt w0 w' a r o1 o2 X cs) :=
  (check_o i g h.p.t).mono fun _ _ ⟨k1, k2⟩ => ⟨k1, h.quiet k2⟩
theorem rcheck_p (i g : Int) (h : SSt w0 w a r o1 o2 X cs) : Calls Try.prog 17 #[.pointer r, .agg #[.int .i64 i, .int .u32 g]] w fun e w' => e = .returned (.int .i64 (oChk o2 i g)) ∧ Hid (SSt w0 w' a r o1 o2 X cs) :=
  (rcheck_o i g h.p.r).mono fun _ _ ⟨k1, k2⟩ => ⟨k1, h.quiet k2⟩
theorem alike_p (slot : Int) (h : SSt w0 w a r o1 o1 X cs) : Calls Try.prog 22 #[.pointer a, .pointer r, .int .i64 slot] w fun e w' => e = .returned (.bool true) ∧ Hid (SSt w0 w' a r o1 o1 X cs) :=
  (alike_ok slot w w0.heap.size a r o1 h.p.t h.p.r).mono fun _ _ ⟨k1, k2⟩ => ⟨k1, h.quiet k2⟩
theorem SSt.tabS {w' : World} {b : Nat} {T U : Tb} (h : SSt w0 w (some ⟨b, 0, none⟩) r o1 o2 X cs) (hb : w0.heap.size ≤ b) (ht : TabW w b T) (hu : TabW w' b U) (k : Kept (· = b) w w') : SSt w0 w' (some ⟨b, 0, none⟩) r (some U) o2 X cs :=
  ⟨⟨⟨b, hb, rfl, hu⟩, h.p.r.keptT ht k, kept_bel h.p.bel k hb⟩, h.x.kept k (by rintro rfl; exact absurd (h.x.uniq ht.bk).1 (by decide))⟩
theorem SSt.refS {w' : World} {c d : Nat} {T U : Tb} (h : SSt w0 w a (some ⟨c, 0, none⟩) o1 o2 X cs) (hc : w0.heap.size ≤ c) (hd : w0.heap.size ≤ d) (ht : RefW w c d T) (hu : RefW w' c d U) (k : Kept (· = d) w w') : SSt w0 w' a (some ⟨c, 0, none⟩) o1 (some U) X cs :=
  ⟨⟨h.p.t.keptR ht k, ⟨c, d, hc, hd, rfl, hu⟩, kept_bel h.p.bel k hd⟩, h.x.kept k (by rintro rfl; obtain ⟨_, _, k1, k2, _⟩ := ht.at_; exact absurd (h.x.uniq k2).1 (by decide))⟩
theorem give_p (i g : Int) (h : SSt w0 w a r o1 o2 X cs) : Calls Try.prog 18 #[.pointer a, .agg #[.int .i64 i, .int .u32 g]] w fun e w' => e = .returned (.int .i64 (oChk o1 i g)) ∧ Hid (SSt w0 w' a r (oGive o1 i g) o2 X cs) := by
  cases o1 with
  | none => exact (give_inv a i g w (.inl h.p.t)).mono fun _ _ ⟨k1, k2⟩ => ⟨k1, h.quiet k2⟩
  | some T =>
    obtain ⟨b, hb, rfl, ht⟩ := h.p.t
    exact (give_any b T i g w ht).mono fun _ _ ⟨k1, k2, k3⟩ => ⟨k1, h.tabS hb ht k2 k3⟩
theorem rgive_p (i g : Int) (h : SSt w0 w a r o1 o2 X cs) : Calls Try.prog 19 #[.pointer r, .agg #[.int .i64 i, .int .u32 g]] w fun e w' => e = .returned (.int .i64 (oChk o2 i g)) ∧ Hid (SSt w0 w' a r o1 (oGive o2 i g) X cs) := by
  cases o2 with
  | none =>
    have hr : r = none := h.p.r
    subst hr
    exact (rgive_nil i g w).mono fun _ _ ⟨k1, k2⟩ => ⟨k1, h.quiet k2⟩
  | some T =>
    obtain ⟨c, d, hc, hd, rfl, ht⟩ := h.p.r
    exact (rgive_any c d T i g w ht).mono fun _ _ ⟨k1, k2, k3⟩ => ⟨k1, h.refS hc hd ht k2 k3⟩
theorem take_p (h : SSt w0 w a r o1 o2 X cs) : Calls Try.prog 14 #[.pointer a] w fun e w' => e = .returned (.tuple #[.agg #[.int .i64 (oTI o1), .int .u32 (oTG o1)], .int .i64 (oTE o1)]) ∧ Hid (SSt w0 w' a r (oTake o1) o2 X cs) := by
  cases o1 with
  | none => exact (take_inv a w (.inl h.p.t)).mono fun _ _ ⟨k1, k2⟩ => ⟨k1, h.quiet k2⟩
  | some T =>
    obtain ⟨b, hb, rfl, ht⟩ := h.p.t
    exact (take_ok b T w ht).mono fun _ _ ⟨k1, k2, k3⟩ => ⟨k1, h.tabS hb ht k2 k3⟩
theorem rtake_p (h : SSt w0 w a r o1 o2 X cs) : Calls Try.prog 15 #[.pointer r] w fun e w' => e = .returned (.tuple #[.agg #[.int .i64 (oTI o2), .int .u32 (oTG o2)], .int .i64 (oTE o2)]) ∧ Hid (SSt w0 w' a r o1 (oTake o2) X cs) ∧ ∀ Y ds, Bk w Y 33 ds → Bk w' Y 33 ds := by
  cases o2 with
  | none =>
    have hr : r = none := h.p.r
    subst hr
    exact (rtake_nil w).mono fun _ _ ⟨k1, k2⟩ => ⟨k1, h.quiet k2, fun _ _ hy => hy.below k2⟩
  | some T =>
    obtain ⟨c, d, hc, hd, rfl, ht⟩ := h.p.r
    exact (rtake_ok c d T w ht).mono fun _ _ ⟨k1, k2, k3⟩ => ⟨k1, h.refS hc hd ht k2 k3, fun Y ds hy => hy.kept k3 (by rintro rfl; obtain ⟨_, _, _, j2, _⟩ := ht.at_; exact absurd (hy.uniq j2).1 (by decide))⟩
theorem copy_p (h : SSt w0 w a r o1 o2 X cs) : Calls Try.prog 20 #[.pointer a] w fun e w' => ∃ a', e = .returned (.pointer a') ∧ Hid (SSt w0 w' a' r o1 o2 X cs) := by
  cases o1 with
  | none => exact (copy_inv a w (.inl h.p.t)).mono fun _ _ ⟨k1, k2⟩ => ⟨none, k1, by subst k2; exact ⟨⟨rfl, h.p.r, h.p.bel⟩, h.x⟩⟩
  | some T =>
    obtain ⟨b, hb, rfl, ht⟩ := h.p.t
    exact (copy_ok b T w ht).mono fun _ _ ⟨k1, k2, k3⟩ => ⟨_, k1, ⟨⟨⟨_, h.p.bel.size, rfl, k2⟩, h.p.r.below k3, bel2 h.p.bel k3⟩, h.x.below k3⟩⟩
theorem rcopy_p (h : SSt w0 w a r o1 o2 X cs) : Calls Try.prog 21 #[.pointer r] w fun e w' => ∃ r', e = .returned (.pointer r') ∧ Hid (SSt w0 w' a r' o1 o2 X cs) := by
  cases o2 with
  | none =>
    have hr : r = none := h.p.r
    subst hr
    exact (rcopy_nil w).mono fun _ _ ⟨k1, k2⟩ => ⟨none, k1, by subst k2; exact h⟩
  | some T =>
    obtain ⟨c, d, hc, hd, rfl, ht⟩ := h.p.r
    exact (rcopy_ok c d T w ht).mono fun _ _ ⟨c', d', k1, k2, k3, k4, k5⟩ => ⟨_, k1, ⟨⟨h.p.t.below k5, ⟨c', d', Nat.le_trans h.p.bel.size k2, Nat.le_trans h.p.bel.size k3, rfl, k4⟩, bel2 h.p.bel k5⟩, h.x.below k5⟩⟩
end

/-! ### The same at a world that has only drawn since -/
theorem Below.drew0 {w W : World} (e2 : W.os = w.os) (e3 : W.tape = w.tape) (e4 : W.output = w.output) (e1 : W.heap = w.heap) (B : Nat) : Below B w W := ⟨e2, e3, e4, by rw [e1]; exact Nat.le_refl _, fun k _ => by rw [e1]⟩
section
variable {w0 W0 W : World} {a r : Option Addr} {o1 o2 : Option Tb} {X : Nat} {D i g : Int}
/-- What s.R reads as. -/
def RR (w : World) (X : Nat) (i g : Int) : Prop := w.cell? ⟨X, 1, none⟩ = some (.int .i64 i) ∧ w.cell? ⟨X, 2, none⟩ = some (.int .u32 g)
theorem SSt.rr (h : SSt w0 W a r o1 o2 X #[.int .i64 D, .int .i64 i, .int .u32 g]) : RR W X i g := ⟨h.x.cell 1, h.x.cell 2⟩
theorem check_m {E : Int} (x y : Int) (hE : oChk o1 x y = E) (h : Hid (SSt w0 W0 a r o1 o2 X #[.int .i64 D, .int .i64 i, .int .u32 g])) (e1 : W.heap = W0.heap) (e2 : W.os = W0.os) (e3 : W.tape = W0.tape) (e4 : W.output = W0.output) :
    Calls Try.prog 16 #[.pointer a, .agg #[.int .i64 x, .int .u32 y]] W fun e w' => e = .returned (.int .i64 E) ∧ Hid (SSt w0 w' a r o1 o2 X #[.int .i64 D, .int .i64 i, .int .u32 g]) ∧ (w'.cell? ⟨X, 1, none⟩ = some (.int .i64 i) ∧ w'.cell? ⟨X, 2, none⟩ = some (.int .u32 g)) := by
  subst hE
  exact (check_p x y (h.out.quiet (Below.drew0 e2 e3 e4 e1 _))).mono fun _ _ ⟨k1, k2⟩ => ⟨k1, k2, k2.out.rr⟩
theorem rcheck_m {E : Int} (x y : Int) (hE : oChk o2 x y = E) (h : Hid (SSt w0 W0 a r o1 o2 X #[.int .i64 D, .int .i64 i, .int .u32 g])) (e1 : W.heap = W0.heap) (e2 : W.os = W0.os) (e3 : W.tape = W0.tape) (e4 : W.output = W0.output) :
    Calls Try.prog 17 #[.pointer r, .agg #[.int .i64 x, .int .u32 y]] W fun e w' => e = .returned (.int .i64 E) ∧ Hid (SSt w0 w' a r o1 o2 X #[.int .i64 D, .int .i64 i, .int .u32 g]) ∧ (w'.cell? ⟨X, 1, none⟩ = some (.int .i64 i) ∧ w'.cell? ⟨X, 2, none⟩ = some (.int .u32 g)) := by
  subst hE
  exact (rcheck_p x y (h.out.quiet (Below.drew0 e2 e3 e4 e1 _))).mono fun _ _ ⟨k1, k2⟩ => ⟨k1, k2, k2.out.rr⟩
theorem give_m {E : Int} (x y : Int) (hE : oChk o1 x y = E) (h : Hid (SSt w0 W0 a r o1 o2 X #[.int .i64 D, .int .i64 i, .int .u32 g])) (e1 : W.heap = W0.heap) (e2 : W.os = W0.os) (e3 : W.tape = W0.tape) (e4 : W.output = W0.output) :
    Calls Try.prog 18 #[.pointer a, .agg #[.int .i64 x, .int .u32 y]] W fun e w' => e = .returned (.int .i64 E) ∧ Hid (SSt w0 w' a r (oGive o1 x y) o2 X #[.int .i64 D, .int .i64 i, .int .u32 g]) ∧ (w'.cell? ⟨X, 1, none⟩ = some (.int .i64 i) ∧ w'.cell? ⟨X, 2, none⟩ = some (.int .u32 g)) := by
  subst hE
  exact (give_p x y (h.out.quiet (Below.drew0 e2 e3 e4 e1 _))).mono fun _ _ ⟨k1, k2⟩ => ⟨k1, k2, k2.out.rr⟩
theorem rgive_m {E : Int} (x y : Int) (hE : oChk o2 x y = E) (h : Hid (SSt w0 W0 a r o1 o2 X #[.int .i64 D, .int .i64 i, .int .u32 g])) (e1 : W.heap = W0.heap) (e2 : W.os = W0.os) (e3 : W.tape = W0.tape) (e4 : W.output = W0.output) :
    Calls Try.prog 19 #[.pointer r, .agg #[.int .i64 x, .int .u32 y]] W fun e w' => e = .returned (.int .i64 E) ∧ Hid (SSt w0 w' a r o1 (oGive o2 x y) X #[.int .i64 D, .int .i64 i, .int .u32 g]) ∧ (w'.cell? ⟨X, 1, none⟩ = some (.int .i64 i) ∧ w'.cell? ⟨X, 2, none⟩ = some (.int .u32 g)) := by
  subst hE
  exact (rgive_p x y (h.out.quiet (Below.drew0 e2 e3 e4 e1 _))).mono fun _ _ ⟨k1, k2⟩ => ⟨k1, k2, k2.out.rr⟩
theorem alike_m (slot : Int) (h : Hid (SSt w0 W0 a r o1 o1 X #[.int .i64 D, .int .i64 i, .int .u32 g])) (e1 : W.heap = W0.heap) (e2 : W.os = W0.os) (e3 : W.tape = W0.tape) (e4 : W.output = W0.output) :
    Calls Try.prog 22 #[.pointer a, .pointer r, .int .i64 slot] W fun e w' => e = .returned (.bool true) ∧ Hid (SSt w0 w' a r o1 o1 X #[.int .i64 D, .int .i64 i, .int .u32 g]) ∧ (w'.cell? ⟨X, 1, none⟩ = some (.int .i64 i) ∧ w'.cell? ⟨X, 2, none⟩ = some (.int .u32 g)) :=
  (alike_p slot (h.out.quiet (Below.drew0 e2 e3 e4 e1 _))).mono fun _ _ ⟨k1, k2⟩ => ⟨k1, k2, k2.out.rr⟩
end

/-! ### New -/
def oNew (size first : Int) : Option Tb := if (1 ≤ size ∧ size ≤ 256) ∧ 1 ≤ first then some (fresh size.toNat first.toNat) else none
def oNewE (size first : Int) : Int := if (1 ≤ size ∧ size ≤ 256) ∧ 1 ≤ first then 0 else 2
theorem new_o (size first : Int) (w : World) (h0 : 0 ≤ first) (h1 : first ≤ 4294967295) : Calls Try.prog 12 #[.int .i64 size, .int .u32 first] w fun e w' => ∃ a, e = .returned (.tuple #[.pointer a, .int .i64 (oNewE size first)]) ∧ TabO w' w.heap.size a (oNew size first) ∧ Below w.heap.size w w' := by
  unfold oNew oNewE
  by_cases h : (1 ≤ size ∧ size ≤ 256) ∧ 1 ≤ first
  · rw [if_pos h, if_pos h]
    obtain ⟨n, rfl⟩ : ∃ n : Nat, size = n := ⟨size.toNat, by omega⟩
    obtain ⟨f, rfl⟩ : ∃ f : Nat, first = f := ⟨first.toNat, by omega⟩
    rw [Int.toNat_natCast, Int.toNat_natCast]
    exact (new_ok n f w (by omega) (by omega) (by omega) (by omega)).mono fun _ _ ⟨k1, k2, k3⟩ => ⟨_, k1, ⟨_, Nat.le_refl _, rfl, k2⟩, k3⟩
  · rw [if_neg h, if_neg h]
    by_cases hs : size < 1 ∨ 256 < size
    · exact (new_arg1 size first w hs).mono fun _ _ ⟨k1, k2⟩ => ⟨none, k1, rfl, by subst k2; exact Below.refl _ _⟩
    · obtain rfl : first = 0 := by omega
      exact (new_arg2 size w (by omega) (by omega)).mono fun _ _ ⟨k1, k2⟩ => ⟨none, k1, rfl, by subst k2; exact Below.refl _ _⟩
theorem rnew_o (size first : Int) (w : World) (h0 : 0 ≤ first) (h1 : first ≤ 4294967295) : Calls Try.prog 13 #[.int .i64 size, .int .u32 first] w fun e w' => ∃ a, e = .returned (.tuple #[.pointer a, .int .i64 (oNewE size first)]) ∧ RefO w' w.heap.size a (oNew size first) ∧ Below w.heap.size w w' := by
  unfold oNew oNewE
  by_cases h : (1 ≤ size ∧ size ≤ 256) ∧ 1 ≤ first
  · rw [if_pos h, if_pos h]
    obtain ⟨n, rfl⟩ : ∃ n : Nat, size = n := ⟨size.toNat, by omega⟩
    obtain ⟨f, rfl⟩ : ∃ f : Nat, first = f := ⟨first.toNat, by omega⟩
    rw [Int.toNat_natCast, Int.toNat_natCast]
    exact (rnew_ok n f w (by omega) (by omega) (by omega) (by omega)).mono fun _ _ ⟨c, d, k1, k2, k3, k4, k5⟩ => ⟨_, k1, ⟨c, d, k2, k3, rfl, k4⟩, k5⟩
  · rw [if_neg h, if_neg h]
    by_cases hs : size < 1 ∨ 256 < size
    · exact (rnew_arg1 size first w hs).mono fun _ _ ⟨k1, k2⟩ => ⟨none, k1, rfl, by subst k2; exact Below.refl _ _⟩
    · obtain rfl : first = 0 := by omega
      exact (rnew_arg2 size w (by omega) (by omega)).mono fun _ _ ⟨k1, k2⟩ => ⟨none, k1, rfl, by subst k2; exact Below.refl _ _⟩
theorem none_o {w w' : World} {B B' : Nat} {a r : Option Addr} {o : Option Tb} (h1 : TabO w B a o) (h2 : RefO w' B' r o) : (a = none ∧ r = none) ∨ ∃ x y, a = some x ∧ r = some y := by
  cases o with
  | none => exact .inl ⟨h1, h2⟩
  | some T =>
    obtain ⟨b, _, k1, _⟩ := h1
    obtain ⟨c, d, _, _, k2, _⟩ := h2
    exact .inr ⟨_, _, k1, k2⟩
end Go.Proofs.Ytgdboppdncoieaa
