/- The contract of the program's Add. -/
import Derived.Test.YtenggngcigkakaaGreatDoorHc
import Derived.StillTailTactics
namespace Go.Proofs.YtenggngcigkakaaGreatDoor
open Go.RowKit Go.ChangeShapes

open Classical in
/-- The error of Add. -/
noncomputable def addE (l : List Att) (a : Att) : Int :=
  if ¬ a.Ok then 2 else if ∃ z, l.getLast? = some z ∧ a.t < z.t then 8 else if 10000 ≤ l.length then 4 else 0
open Classical in
/-- The attempts behind Add. -/
noncomputable def addL (l : List Att) (a : Att) : List Att := if addE l a = 0 then l ++ [a] else l
theorem addE_arg {l : List Att} {a : Att} (h : ¬ a.Ok) : addE l a = 2 := if_pos h
theorem addE_state {l : List Att} {a : Att} (h : a.Ok) (h2 : ∃ z, l.getLast? = some z ∧ a.t < z.t) : addE l a = 8 := by
  unfold addE; rw [if_neg (by simpa using h), if_pos h2]
theorem addE_full {l : List Att} {a : Att} (h : a.Ok) (h2 : ¬ ∃ z, l.getLast? = some z ∧ a.t < z.t) (h3 : 10000 ≤ l.length) : addE l a = 4 := by
  unfold addE; rw [if_neg (by simpa using h), if_neg h2, if_pos h3]
theorem addE_ok {l : List Att} {a : Att} (h : a.Ok) (h2 : ¬ ∃ z, l.getLast? = some z ∧ a.t < z.t) (h3 : l.length < 10000) : addE l a = 0 := by
  unfold addE; rw [if_neg (by simpa using h), if_neg h2, if_neg (by omega)]
theorem addL_no {l : List Att} {a : Att} (h : addE l a ≠ 0) : addL l a = l := if_neg h
theorem addL_ok {l : List Att} {a : Att} (h : addE l a = 0) : addL l a = l ++ [a] := if_pos h
def AddV (b bk lo : Nat) (l : List Att) (a : Att) (w : World) (e : Ending) (w' : World) : Prop :=
  e = .returned (.int .i64 (addE l a)) ∧ LedW w' b bk lo (addL l a) ∧ Kept (Foot w bk) w w' ∧ ∀ g, Foot w' bk g → Foot w bk g ∨ w.heap.size ≤ g
/-- Where nothing is added. -/
theorem addV_same {b bk lo : Nat} {l : List Att} {a : Att} {w w' : World} {E : Int} (h : LedW w b bk lo l) (hE : addE l a = E) (h0 : E ≠ 0) (hb : Below w.heap.size w w') : AddV b bk lo l a w (.returned (.int .i64 E)) w' := by
  obtain ⟨h1, h2⟩ := h.below hb
  exact ⟨by rw [hE], by rw [addL_no (by rw [hE]; exact h0)]; exact h1, (Kept.of_below (S := fun _ => False) hb).mono fun _ _ e => e.elim, fun g hg => .inl ((h2 g).1 hg)⟩
theorem addV_put {b bk lo m : Nat} {l : List Att} {a : Att} {w w1 w' : World} (h : LedW w b bk lo l) (hE : addE l a = 0) (hb : Below w.heap.size w w1) (hp : Put1 w1 bk m lo (l ++ [a]) w') : AddV b bk lo l a w (.returned (.int .i64 0)) w' := by
  obtain ⟨h1, h2⟩ := h.below hb
  obtain ⟨h3, h4, h5⟩ := hp
  refine ⟨by rw [hE], ?_, ((Kept.of_below (S := fun _ => False) hb).mono fun _ _ e => e.elim).trans (h4.mono fun k _ e => (h2 k).1 e), fun g hg => ?_⟩
  · rw [addL_ok hE]
    exact ⟨h1.hb.kept h4 h1.not_foot, m, h3⟩
  · rcases h5 g hg with e | e
    · exact .inl ((h2 g).1 e)
    · have := hb.size; exact .inr (by omega)

theorem add_no (p : Option Addr) (a : Att) (w : World) (h : Inv w p) : Calls Tryz.prog 17 #[.pointer p, a.val] w fun e w' => e = .returned (.int .i64 1) ∧ Below w.heap.size w w' := by
  have hI : Hid (Inv (w.alloc (.cells #[.int .i64 a.t, .int .i64 a.k, .int .i64 a.i, .int .u32 a.g, .int .i64 a.y, .int .i64 a.n] 32)) p) := h.below (bel_new _ _)
  obtain ⟨t, k, i, g, y, n⟩ := a
  simp only [Att.val] at *
  clear h
  go_enter Tryz.func17, Tryz.ntmps17
  go_wp2_with (go_at_call 50; refine (valid_no _ _ hI.out).mono ?_; rintro e w' ⟨rfl, rfl⟩)
  go_ret
  exact ⟨rfl, bel_new _ _⟩

set_option maxRecDepth 100000 in
set_option maxHeartbeats 2000000 in
theorem add_ok (b bk lo : Nat) (l : List Att) (a : Att) (w : World) (h : LedW w b bk lo l) (hr : a.Rg) (he : EnvL w) : Calls Tryz.prog 17 #[.pointer (some ⟨b, 0, none⟩), a.val] w (AddV b bk lo l a w) := by
  have H := Lib.hid h
  have HR := Lib.hid hr
  have HB0 := Lib.hid (bel_new w (.cells #[.int .i64 a.t, .int .i64 a.k, .int .i64 a.i, .int .u32 a.g, .int .i64 a.y, .int .i64 a.n] 32))
  have hbox : Bk (w.alloc (.cells #[.int .i64 a.t, .int .i64 a.k, .int .i64 a.i, .int .u32 a.g, .int .i64 a.y, .int .i64 a.n] 32)) w.heap.size 32 a.cl.toArray := Bk.new w _ _
  have HBX := Lib.hid hbox
  obtain ⟨c0, c1, c2, c3, c4, c5⟩ := six_new hbox
  have HE := Lib.hid he
  have hc := (h.below HB0.out).1.cell
  have HC := Lib.hid hc
  have hvl : a.val = .agg #[.int .i64 a.t, .int .i64 a.k, .int .i64 a.i, .int .u32 a.g, .int .i64 a.y, .int .i64 a.n] := rfl
  have HV := Lib.hid hvl
  rw [hvl]
  simp only [Nat.zero_add] at c0 c1 c2 c3 c4 c5
  clear h hr he hbox hvl
  go_enter Tryz.func17, Tryz.ntmps17
  go_wp2_with (go_at_call 50; refine (valid_yes _ _ _ HC.out).mono ?_; rintro e w' ⟨rfl, rfl⟩)
  refine (chk_att a HR.out _ (HE.out.below HB0.out)).mono ?_
  rintro e w1 ⟨hee, hb1⟩
  have HB1 := Lib.hid (bel2 HB0.out hb1)
  rcases a.ok_or with hok | hno
  · rw [chkE_ok hok] at hee
    subst hee
    have HOK := Lib.hid hok
    obtain ⟨H1, HF1⟩ := H.out.below HB1.out
    have HL1 := Lib.hid H1
    have hc1 := H1.cell
    have hlen := H1.len
    obtain ⟨m, v, hB⟩ := H1.book
    obtain ⟨sa, sc, rfl, k0, k1, _, hrd⟩ := hB.cells
    have HBK := Lib.hid hB
    have HRD := Lib.hid hrd
    obtain ⟨d0, d1, d2, d3, d4, d5⟩ := six_new (HBX.out.below hb1)
    simp only [Nat.zero_add] at d0 d1 d2 d3 d4 d5
    obtain ⟨_, hcap, hcm, _⟩ := hrd.cap
    have PUT : ∀ W, Below w1.heap.size w1 W → l.length < 10000 → Calls Tryz.prog 51 #[.pointer (some ⟨bk, 0, none⟩), a.val] W fun e w' => e = .returned (.tuple #[]) ∧ Put1 W bk m lo (l ++ [a]) w' := fun W hW hl => put_ok bk m lo _ l a W (HBK.out.below hW).1 HOK.out hl
    have HPUT := Lib.hid PUT
    clear PUT H1 HF1 hB hok hb1 c0 c1 c2 c3 c4 c5 hc
    rcases Nat.eq_zero_or_pos l.length with hl0 | hl0
    · go_wp2_with (go_at_call 29; refine (len_ok _ _ _ _ _ HL1.out).mono ?_; rintro e w' ⟨rfl, rfl⟩)
      have hl : l = [] := List.eq_nil_of_length_eq_zero hl0
      subst hl
      simp only [List.length_nil] at *
      have hE : addE [] a = 0 := addE_ok HOK.out (by simp) (by simp)
      have HEE := Lib.hid hE
      clear hE hl0
      go_quiet (fail)
      have HW : Hid (Below w1.heap.size w1 (w1.drewN nq)) := bel_drewN (Below.refl _ _) _
      generalize w1.drewN nq = W2 at *
      have hc2 := cell_stays HW.out hc1
      have k2 := cell_stays HW.out k0
      have e0 := cell_stays HW.out d0
      have e1 := cell_stays HW.out d1
      have e2 := cell_stays HW.out d2
      have e3 := cell_stays HW.out d3
      have e4 := cell_stays HW.out d4
      have e5 := cell_stays HW.out d5
      clear hc1 k0 k1 d0 d1 d2 d3 d4 d5
      go_wp2
      go_still_tail 5, (by kernel_rfl)
      change wpList _ _ _ _ _ W2.drew
      go_wp2_with (go_at_call 51; refine (HPUT.out _ (bel_drew HW.out) (by omega)).mono ?_; rintro e w' ⟨rfl, hp⟩)
      have HP := Lib.hid hp
      clear hp
      go_wp2
      go_ret
      exact addV_put H.out HEE.out (bel2 HB1.out (bel_drew HW.out)) HP.out
    · obtain ⟨N, hN⟩ : ∃ N, l.length = N + 1 := ⟨l.length - 1, by omega⟩
      obtain ⟨g, off, rfl, hg, q0, q1⟩ := hrd.cell (j := N) (by omega)
      clear q1
      have hlast : l.getLast? = some (l[N]'(by omega)) := by
        rw [List.getLast?_eq_getElem?, show l.length - 1 = N by omega]; exact List.getElem?_eq_getElem (by omega)
      obtain ⟨z, hz⟩ : ∃ z, l[N]'(by omega) = z := ⟨_, rfl⟩
      rw [hz] at q0 hlast
      have HX : Hid (¬ a.t < z.t → ¬ ∃ z, l.getLast? = some z ∧ a.t < z.t) := fun h => by
        rintro ⟨z', h1, h2⟩
        rw [hlast] at h1
        exact h (Option.some.inj h1 ▸ h2)
      have HY : Hid (a.t < z.t → addE l a = 8) := fun h => addE_state HOK.out ⟨z, hlast, h⟩
      have HLN := Lib.hid hN
      rw [hN] at k0 hcap hlen
      clear hlast hz hl0 hrd hN
      have hgt : (0 : Int) < (N : Int) + 1 := by omega
      go_wp2_with fail
      refine (len_ok _ _ _ _ _ HL1.out).mono ?_
      rintro e w' ⟨hee, rfl⟩
      rw [HLN.out] at hee
      subst hee
      by_cases hlt : a.t < z.t
      · have HE8 := Lib.hid (HY.out hlt)
        go_wp2
        go_quiet (fail)
        go_wp2
        go_ret
        exact addV_same H.out HE8.out (by decide) (bel2 HB1.out (bel_drewN (Below.refl _ _) _))
      · have HX1 := Lib.hid (HX.out (by omega))
        by_cases hful : N + 1 = 10000
        · obtain rfl : N = 9999 := by omega
          simp only [Nat.reduceAdd] at *
          have HE4 : Hid (addE l a = 4) := addE_full HOK.out HX1.out (by have := HLN.out; omega)
          go_wp2
          go_quiet (fail)
          go_wp2
          go_ret
          exact addV_same H.out HE4.out (by decide) (bel2 HB1.out (bel_drewN (Below.refl _ _) _))
        · have HE0 : Hid (addE l a = 0) := addE_ok HOK.out HX1.out (by have := HLN.out; omega)
          have hne : (((N : Int) + 1) == 10000) = false := beq_eq_false_iff_ne.2 (by omega)
          go_wp2
          go_quiet (fail)
          have HW : Hid (Below w1.heap.size w1 (w1.drewN nq)) := bel_drewN (Below.refl _ _) _
          generalize w1.drewN nq = W2 at *
          have hc2 := cell_stays HW.out hc1
          have k2 := cell_stays HW.out k0
          have e0 := cell_stays HW.out d0
          have e1 := cell_stays HW.out d1
          have e2 := cell_stays HW.out d2
          have e3 := cell_stays HW.out d3
          have e4 := cell_stays HW.out d4
          have e5 := cell_stays HW.out d5
          clear hc1 k0 k1 d0 d1 d2 d3 d4 d5
          go_wp2
          go_still_tail 5, (by kernel_rfl)
          change wpList _ _ _ _ _ W2.drew
          go_wp2_with (go_at_call 51; refine (HPUT.out _ (bel_drew HW.out) (by have := HLN.out; omega)).mono ?_; rintro e w' ⟨rfl, hp⟩)
          have HP := Lib.hid hp
          clear hp
          go_wp2
          go_ret
          exact addV_put H.out HE0.out (bel2 HB1.out (bel_drew HW.out)) HP.out
  · rw [chkE_bad hno] at hee
    subst hee
    have hE : addE l a = 2 := addE_arg hno
    clear hno
    go_wp2
    go_ret
    exact addV_same H.out hE (by decide) HB1.out
end Go.Proofs.YtenggngcigkakaaGreatDoor
