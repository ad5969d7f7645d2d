/- The contracts of slices.Clone and slices.Equal on attempts, and of the program's All. -/
import Derived.Test.YtenggngcigkakaaGreatDoorHd
namespace Go.Proofs.YtenggngcigkakaaGreatDoor
open Go.RowKit Go.ChangeShapes

/-- A new slice that holds l. -/
def NewA (l : List Att) (w : World) (e : Ending) (w' : World) : Prop :=
  ∃ v, e = .returned v ∧ w'.ownsRow w.heap.size 32 6 v l.length (cls l) ∧ Below w.heap.size w w'
theorem ownA_lt {w : World} {base n s : Nat} {v : Value} {e : TypeId} {xs : List Value} (h : w.ownsRow base e s v n xs) : ∀ k, v.ownBlock = some k → base ≤ k := fun k hk => (h.lt k hk).1
theorem ownA_empty (w : World) : (w.alloc (.cells #[] 32)).ownsRow w.heap.size 32 6 (.slice (some ⟨w.heap.size, 0, none⟩) 0 0) 0 [] := World.ownsRow_lit w #[] 0 (Nat.le_refl _) (by decide) rfl
/-- The cells of a slice that is read. -/
theorem RdA.news {w : World} {ad : Addr} {n c : Nat} {l : List Att} (h : RdA w (.slice (some ad) n c) l) : ∀ j u, (cls l)[j]? = some u → w.cell? (ad.add j) = some u := by
  intro j u hj
  obtain ⟨a', c', e, h1, h2, h3, h4⟩ := h
  injection e with e1 e2 e3
  have hl : 0 < l.length := by
    have := (List.getElem?_eq_some_iff.1 hj).1
    rw [cls_length] at this
    omega
  obtain ⟨g, off, e4, hg, hc⟩ := h4 hl
  rw [← e1] at e4
  obtain rfl := Option.some.inj e4
  have e : (⟨g, off, none⟩ : Addr).add j = ⟨g, off + j, none⟩ := by unfold Addr.add; split <;> simp_all
  rw [e]; exact hc j u hj
set_option maxHeartbeats 1000000 in
theorem clone_ok (a : Option Addr) (n c : Nat) (l : List Att) (w : World) (h : RdA w (.slice a n c) l) (hl : l.length ≤ 100000) :
    Calls Tryz.prog 34 #[.slice a n c] w (NewA l w) := by
  obtain ⟨hn, h1, h2, h3⟩ := h.cap
  subst hn
  obtain ⟨j0, hj, hy0, hy1, hy2⟩ := info_parts info_att
  cases a with
  | none =>
    have hc := h3 rfl
    subst hc
    have : l = [] := List.eq_nil_of_length_eq_zero (by omega)
    subst this
    have heq := Lib.run_eql_slice_nil (P := Tryz.prog) w 22 32 none 0 0 0 0 Tryz.underlying22
    go_enter Tryz.func34, Tryz.ntmps34
    go_wp2
    go_ret
    exact ⟨_, rfl, World.ownsRow_nil _ _ _ _, Below.refl _ _⟩
  | some b =>
    have heq := Lib.run_eql_slice_nil (P := Tryz.prog) w 22 32 (some b) l.length c 0 0 Tryz.underlying22
    have H := Lib.hid (h.below (bel_new w (.cells #[] 32)))
    have HO := Lib.hid (ownA_empty w)
    clear h h3
    go_enter Tryz.func34, Tryz.ntmps34
    go_wp2_with (at_builtin; refine wpList_append_own _ rfl _ _ 22 rfl w.heap.size 32 j0 _ 6 48 Tryz.underlying22 hj hy0 hy1 hy2 rfl (by decide) _ 0 [] rfl HO.out b l.length c (cls l) rfl (cls_length l) H.out.news (cls_one l) ?c1 ?c2 ?c3 ?_)
    case c1 => unfold maxLen; omega
    case c2 => omega
    case c3 => simp
    intro v' w1 hown hgrow _
    have HV : Hid (NewA l w (.returned v') w1) := ⟨v', rfl, by simpa using hown, (bel_new w _).grown hgrow (by simp) (fun k hk => ownA_lt HO.out k hk)⟩
    clear hown hgrow
    go_wp2
    go_ret
    exact HV.out

/-! ### All -/
theorem all_no (p : Option Addr) (w : World) (h : Inv w p) : Calls Tryz.prog 31 #[.pointer p] w fun e w' => e = .returned (.slice none 0 0) ∧ w = w' := by
  go_enter Tryz.func31, Tryz.ntmps31
  go_wp2_with (go_at_call 50; refine (valid_no _ _ h).mono ?_; rintro e w' ⟨rfl, rfl⟩)
  go_ret
  exact ⟨rfl, rfl⟩
theorem all_ok (b bk lo : Nat) (l : List Att) (w : World) (h : LedW w b bk lo l) : Calls Tryz.prog 31 #[.pointer (some ⟨b, 0, none⟩)] w (NewA l w) := by
  have hc := h.cell
  have hl := h.len
  obtain ⟨m, v, hB⟩ := h.book
  obtain ⟨a, c, _, h0, _, _, hr⟩ := hB.cells
  have HR := Lib.hid hr
  clear h hB hr
  go_enter Tryz.func31, Tryz.ntmps31
  go_wp2_with (go_at_call 50; refine (valid_yes _ _ _ hc).mono ?_; rintro e w' ⟨rfl, rfl⟩)
  refine (clone_ok a _ c l _ HR.out (by omega)).mono ?_
  rintro e w1 ⟨v1, rfl, ho, hb⟩
  have HV : Hid (NewA l w (.returned v1) w1) := ⟨v1, rfl, ho, hb⟩
  clear ho hb
  go_wp2
  go_ret
  exact HV.out

/-! ### Equal -/
/-- Two lists of attempts are equal. -/
theorem val_ne {a b : Att} (h : a ≠ b) : (a.t == b.t && a.k == b.k && a.i == b.i && a.g == b.g && a.y == b.y && a.n == b.n) = false := by
  rw [Bool.eq_false_iff]
  intro e
  simp only [Bool.and_eq_true, beq_iff_eq] at e
  obtain ⟨⟨⟨⟨⟨e1, e2⟩, e3⟩, e4⟩, e5⟩, e6⟩ := e
  exact h (by cases a; cases b; simp_all)
set_option maxRecDepth 100000 in
set_option maxHeartbeats 1000000 in
theorem equal_yes (a a' : Option Addr) (n n' c c' : Nat) (l : List Att) (w : World) (h : RdA w (.slice a n c) l) (h' : RdA w (.slice a' n' c') l) :
    Calls Tryz.prog 26 #[.slice a n c, .slice a' n' c'] w fun e w' => e = .returned (.bool true) ∧ Below w.heap.size w w' := by
  obtain ⟨rfl, h1, h2, _⟩ := h.cap
  obtain ⟨rfl, _⟩ := h'.cap
  have H := Lib.hid h
  have H' := Lib.hid h'
  clear h h'
  go_enter Tryz.func26, Tryz.ntmps26
  go_wp2
  go_loopw [13] (fun i wr => ∃ k : Nat, k ≤ l.length ∧ i = .int .i64 k ∧ Hid (Below w.heap.size w wr)) (fun i _ => l.length - (intOf i).toNat)
  case atStart => exact ⟨0, Nat.zero_le _, rfl, Below.refl _ _⟩
  case round =>
    obtain ⟨k, hk, rfl, HB⟩ := hrel
    by_cases hlt : k < l.length
    · obtain ⟨g, off, rfl, hg, hc⟩ := (H.out.below HB.out).cell hlt
      obtain ⟨g', off', rfl, hg', hc'⟩ := (H'.out.below HB.out).cell hlt
      generalize l[k] = x at *
      obtain ⟨t, k', i, g0, y, n⟩ := x
      obtain ⟨c0, c1, c2, c3, c4, c5⟩ := hc
      obtain ⟨d0, d1, d2, d3, d4, d5⟩ := hc'
      simp only at c0 c1 c2 c3 c4 c5 d0 d1 d2 d3 d4 d5
      go_wp2
      go_quiet (fail)
      go_wp2
      exact ⟨⟨k + 1, by omega, by go_num, bel_drewN HB.out _⟩, by simp [intOf]; omega⟩
    · obtain rfl : k = l.length := by omega
      clear hlt
      go_wp2
      go_ret
      exact ⟨rfl, HB.out⟩
end Go.Proofs.YtenggngcigkakaaGreatDoor
