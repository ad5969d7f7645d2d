/- The document's Copy; both paints or none of both: what a call answers; what both show. -/
import Derived.Test.YthcpmcdgojgdlaaCs
namespace Go.Proofs.Ythcpmcdgojgdlaa
open Go.RowKit

theorem rcopy_nil (w : World) : Calls Try.prog 23 #[.pointer none] w fun e w' => e = .returned (.pointer none) ∧ w = w' := by
  go_enter Try.func23, Try.ntmps23
  go_wp2_with (go_at_call 31; refine (rcheck_nil _ _).mono ?_; rintro e w' ⟨rfl, rfl⟩)
  go_ret
  exact ⟨rfl, rfl⟩
set_option maxHeartbeats 1000000 in
theorem rcopy_any (c d : Nat) (P : Pt) (w : World) (h : RfW w c d P) : Calls Try.prog 23 #[.pointer (some ⟨c, 0, none⟩)] w fun e w' => ∃ c' d', w.heap.size ≤ c' ∧ w.heap.size ≤ d' ∧ e = .returned (.pointer (some ⟨c', 0, none⟩)) ∧ RfW w' c' d' P ∧ Below w.heap.size w w' := by
  obtain ⟨i0, hi, hz0, hz1, hz2⟩ := info_parts info_int
  obtain ⟨cap, hcap, hc⟩ := h.c0
  have hn := h.ok.hi
  have hdl := h.dt
  have hcl := h.ct
  have hown : (w.alloc (.cells #[] 3)).ownsRow w.heap.size 3 1 (.slice (some ⟨w.heap.size, 0, none⟩) 0 0) 0 [] := World.ownsRow_lit w #[] 0 (Nat.le_refl _) (by decide) rfl
  have H := Lib.hid h
  have HO := Lib.hid hown
  clear h hown
  go_enter Try.func23, Try.ntmps23
  go_wp2_with (first
    | (go_at_call 31; refine (rcheck_in _ _ _ 0 _ H.out H.out.ok.lo).mono ?_; rintro e w' ⟨rfl, rfl⟩)
    | (at_builtin; refine wpList_append_own _ rfl _ _ 52 rfl w.heap.size 3 i0 (.int .i64 0) 1 8 Try.underlying52 hi hz0 hz1 hz2 rfl (by decide) _ _ _ rfl HO.out ⟨d, 0, none⟩ P.n cap ((List.range P.n).map fun i => .int .i64 (P.c i)) rfl ?c0 ?c1 ?c2 ?c3 ?c4 ?c5 ?_))
  case c0 => simp
  case c1 =>
    intro j u hj
    obtain ⟨hjl, rfl⟩ := List.getElem?_eq_some_iff.1 hj
    simp at hjl
    have e : (⟨d, 0, none⟩ : Addr).add j = ⟨d, j, none⟩ := by unfold Addr.add; split <;> simp_all
    rw [e, World.cell?_alloc_lt _ _ _ hdl, H.out.l.val hjl]; simp
  case c2 =>
    intro u hu
    obtain ⟨j, _, rfl⟩ := List.mem_map.1 hu
    rfl
  case c3 => unfold maxLen; omega
  case c4 => omega
  case c5 => simp
  intro v' w1 hown' hgrow _
  have hB : Below w.heap.size w w1 := (bel_new w _).grown hgrow (by simp) (fun k hk => by simp [Value.ownBlock] at hk; omega)
  have hrow : ∃ g k cur, w.heap.size ≤ g ∧ v' = .slice (some ⟨g, 0, none⟩) P.n k ∧ Bk w1 g 3 cur ∧ cur.size = k ∧ P.n ≤ k ∧ k ≤ maxLen ∧ ∀ i, i < P.n → cur[i]? = some (.int .i64 (P.c i)) := by
    have hlo := H.out.ok.lo
    have hown2 : w1.ownsRow w.heap.size 3 1 v' P.n ((List.range P.n).map fun i => .int .i64 (P.c i)) := by simpa using hown'
    rcases hown2.2 with ⟨_, h0⟩ | ⟨g, k, cur, h1, h3, h4, h5, h6, h7, h8⟩
    · omega
    · refine ⟨g, k, cur, h3, h1, h4, by omega, h5, h6, fun i hi => ?_⟩
      have e : (cur.toList.take (P.n * 1))[i]? = ((List.range P.n).map fun i => Value.int .i64 (P.c i))[i]? := by rw [h8]
      rw [List.getElem?_take_of_lt (by omega), Array.getElem?_toList] at e
      rw [e]; simp [hi]
  obtain ⟨g, k, cur, hg, rfl, hbk, hsz, hk1, hk2, hcur⟩ := hrow
  have HL : Hid (Bl w1 g P.n P.c) := ⟨cur, hbk, by omega, hcur⟩
  have HB := Lib.hid hB
  clear hown' hgrow hB hbk hcur
  go_wp2
  go_ret
  exact ⟨w1.heap.size, g, HB.out.size, hg, rfl, ⟨H.out.ok, ⟨k, hk1, hk2, Bk.new _ _ _⟩, HL.out.below (bel_new _ _)⟩, HB.out.alloc HB.out.size _⟩

/-! ### both, or none of both -/
def PaO (w : World) (p : Option Addr) (b : Nat) : Option Pt → Prop
  | none => p = none
  | some P => p = some ⟨b, 0, none⟩ ∧ PaW w b P
def RfO (w : World) (r : Option Addr) (c d : Nat) : Option Pt → Prop
  | none => r = none
  | some P => r = some ⟨c, 0, none⟩ ∧ RfW w c d P
section
variable {w w' : World} {p r : Option Addr} {b c d : Nat} {o : Option Pt}
theorem PaO.below (h : PaO w p b o) (k : Below w.heap.size w w') : PaO w' p b o := by
  cases o with
  | none => exact h
  | some P => exact ⟨h.1, h.2.below k⟩
theorem RfO.below (h : RfO w r c d o) (k : Below w.heap.size w w') : RfO w' r c d o := by
  cases o with
  | none => exact h
  | some P => exact ⟨h.1, h.2.below k⟩
def oChk (o : Option Pt) (i : Int) : Int := match o with | none => 1 | some P => P.chk i
def oOf (o : Option Pt) (i : Int) : Nat := match o with | none => 0 | some P => P.of_ i
def oShB (o : Option Pt) (i : Int) : Bool := match o with | none => false | some P => P.shadeB i
def oTE (o : Option Pt) (i : Int) (a : Nat) : Int := match o with | none => 1 | some P => P.turnE i a
def oTurn (o : Option Pt) (i : Int) (a v : Nat) : Option Pt := match o with | none => none | some P => some (P.turn i a v)
def oBl (o : Option Pt) (i : Int) : Option Pt := match o with | none => none | some P => some (P.bleach i)
def oClr (o : Option Pt) : Option Pt := match o with | none => none | some P => some (white P.n)
def oGk (o : Option Pt) (i : Int) : Nat := match o with | none => 0 | some P => (P.greys i).headD 0
def oGB (o : Option Pt) (i : Int) : Bool := match o with | none => false | some P => !(P.greys i).isEmpty
def oCnt (o : Option Pt) (v : Nat) : Nat := match o with | none => 0 | some P => P.cnt v
theorem of_o (i : Int) (h : PaO w p b o) : Calls Try.prog 25 #[.pointer p, .int .i64 i] w fun e w' => e = .returned (.tuple #[.int .i64 (oOf o i), .int .i64 (oChk o i)]) ∧ w = w' := by
  cases o with
  | none => exact of_inv p i w (.inl h)
  | some P => obtain ⟨rfl, h⟩ := h; exact of_any b P i w h
theorem rof_o (i : Int) (h : RfO w r c d o) : Calls Try.prog 36 #[.pointer r, .int .i64 i] w fun e w' => e = .returned (.tuple #[.int .i64 (oOf o i), .int .i64 (oChk o i)]) ∧ w = w' := by
  cases o with
  | none => rw [show r = none from h]; exact rof_nil i w
  | some P => obtain ⟨rfl, h⟩ := h; exact rof_any c d P i w h
theorem grey_o (i : Int) (hi : i ≤ 9223372036854775807) (h : PaO w p b o) : Calls Try.prog 26 #[.pointer p, .int .i64 i] w fun e w' => e = .returned (.tuple #[.int .i64 (oGk o i), .bool (oGB o i)]) ∧ Below w.heap.size w w' := by
  cases o with
  | none => exact grey_inv p i w (.inl h)
  | some P => obtain ⟨rfl, h⟩ := h; exact grey_ok b P i hi w h
theorem rgrey_o (i : Int) (h : RfO w r c d o) : Calls Try.prog 37 #[.pointer r, .int .i64 i] w fun e w' => e = .returned (.tuple #[.int .i64 (oGk o i), .bool (oGB o i)]) ∧ w = w' := by
  cases o with
  | none => rw [show r = none from h]; exact rgrey_nil i w
  | some P => obtain ⟨rfl, h⟩ := h; exact rgrey_any c d P i w h
theorem counts_o (h : PaO w p b o) : Calls Try.prog 27 #[.pointer p] w fun e w' => e = .returned (.tuple #[.int .i64 (oCnt o 0), .int .i64 (oCnt o 1), .int .i64 (oCnt o 2)]) ∧ Below w.heap.size w w' := by
  cases o with
  | none => exact (counts_inv p w (.inl h)).mono fun _ _ ⟨k1, k2⟩ => ⟨k1, by subst k2; exact Below.refl _ _⟩
  | some P => obtain ⟨rfl, h⟩ := h; exact counts_ok b P w h
theorem rcounts_o (h : RfO w r c d o) : Calls Try.prog 38 #[.pointer r] w fun e w' => e = .returned (.tuple #[.int .i64 (oCnt o 0), .int .i64 (oCnt o 1), .int .i64 (oCnt o 2)]) ∧ Below w.heap.size w w' := by
  cases o with
  | none => rw [show r = none from h]; exact rcounts_nil w
  | some P => obtain ⟨rfl, h⟩ := h; exact rcounts_any c d P w h
end
set_option maxHeartbeats 1000000 in
theorem shows_ok (p r : Option Addr) (b c d : Nat) (o : Option Pt) (i : Int) (hi : i ≤ 9223372036854775807) (w : World) (h1 : PaO w p b o) (h2 : RfO w r c d o) :
    Calls Try.prog 24 #[.pointer p, .pointer r, .int .i64 i] w fun e w' => e = .returned (.bool true) ∧ Below w.heap.size w w' := by
  have H1 := Lib.hid h1
  have H2 := Lib.hid h2
  have C1 : Hid (∀ W, Below w.heap.size w W → Calls Try.prog 25 #[.pointer p, .int .i64 i] W fun e w' => e = .returned (.tuple #[.int .i64 (oOf o i), .int .i64 (oChk o i)]) ∧ W = w') := fun W hW => of_o i (H1.out.below hW)
  have C2 : Hid (∀ W, Below w.heap.size w W → Calls Try.prog 36 #[.pointer r, .int .i64 i] W fun e w' => e = .returned (.tuple #[.int .i64 (oOf o i), .int .i64 (oChk o i)]) ∧ W = w') := fun W hW => rof_o i (H2.out.below hW)
  have C3 : Hid (∀ W, Below w.heap.size w W → Calls Try.prog 26 #[.pointer p, .int .i64 i] W fun e w' => e = .returned (.tuple #[.int .i64 (oGk o i), .bool (oGB o i)]) ∧ Below W.heap.size W w') := fun W hW => grey_o i hi (H1.out.below hW)
  have C4 : Hid (∀ W, Below w.heap.size w W → Calls Try.prog 37 #[.pointer r, .int .i64 i] W fun e w' => e = .returned (.tuple #[.int .i64 (oGk o i), .bool (oGB o i)]) ∧ W = w') := fun W hW => rgrey_o i (H2.out.below hW)
  have C5 : Hid (∀ W, Below w.heap.size w W → Calls Try.prog 27 #[.pointer p] W fun e w' => e = .returned (.tuple #[.int .i64 (oCnt o 0), .int .i64 (oCnt o 1), .int .i64 (oCnt o 2)]) ∧ Below W.heap.size W w') := fun W hW => counts_o (H1.out.below hW)
  have C6 : Hid (∀ W, Below w.heap.size w W → Calls Try.prog 38 #[.pointer r] W fun e w' => e = .returned (.tuple #[.int .i64 (oCnt o 0), .int .i64 (oCnt o 1), .int .i64 (oCnt o 2)]) ∧ Below W.heap.size W w') := fun W hW => rcounts_o (H2.out.below hW)
  clear h1 h2 H1 H2
  generalize oOf o i = a1 at *
  generalize oChk o i = a2 at *
  generalize oGk o i = a3 at *
  generalize oGB o i = a4 at *
  generalize oCnt o 0 = a5 at *
  generalize oCnt o 1 = a6 at *
  generalize oCnt o 2 = a7 at *
  have e1 : ((a1 : Int) == (a1 : Int)) = true := by simp
  have e2 : (a2 == a2) = true := by simp
  have e3 : ((a3 : Int) == (a3 : Int)) = true := by simp
  have e4 : (a4 == a4) = true := by simp
  have e5 : ((a5 : Int) == (a5 : Int)) = true := by simp
  have e6 : ((a6 : Int) == (a6 : Int)) = true := by simp
  have e7 : ((a7 : Int) == (a7 : Int)) = true := by simp
  go_enter Try.func24, Try.ntmps24
  go_wp2_with (first
    | (go_at_call 25; refine (C1.out _ (Below.refl _ _)).mono ?_; rintro e w' ⟨rfl, rfl⟩)
    | (go_at_call 36; refine (C2.out _ (Below.refl _ _)).mono ?_; rintro e w' ⟨rfl, rfl⟩)
    | (go_at_call 26; refine (C3.out _ (Below.refl _ _)).mono ?_; rintro e w3 ⟨rfl, hb⟩; have B3 := Lib.hid hb; clear hb)
    | (go_at_call 37; refine (C4.out _ B3.out).mono ?_; rintro e w' ⟨rfl, rfl⟩)
    | (go_at_call 27; refine (C5.out _ B3.out).mono ?_; rintro e w5 ⟨rfl, hb⟩; have B5 := Lib.hid (bel2 B3.out hb); clear hb)
    | (go_at_call 38; refine (C6.out _ B5.out).mono ?_; rintro e w6 ⟨rfl, hb⟩; have B6 := Lib.hid (bel2 B5.out hb); clear hb))
  go_ret
  exact ⟨rfl, B6.out⟩
end Go.Proofs.Ythcpmcdgojgdlaa
