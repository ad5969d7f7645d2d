/- The contracts of the document's Union, Minus, Copy; a pair of the program's set and the document's: what each call does to it. -/
import Derived.Test.YtaenemdclmnnaaaDoorBj
namespace Go.Proofs.YtaenemdclmnnaaaDoor
open Go.RowKit

theorem un_if (f h : Nat → Bool) : (fun q => if h q then true else f q) = un f h := by funext q; unfold un; cases h q <;> simp
theorem mi_if (f h : Nat → Bool) : (fun q => if h q then false else f q) = mi f h := by funext q; unfold mi; cases h q <;> simp

/-! ### Copy -/
def RCpV (n : Nat) (f : Nat → Bool) (w : World) (e : Ending) (w' : World) : Prop :=
  ∃ b g, w.heap.size ≤ b ∧ w.heap.size ≤ g ∧ e = .returned (.pointer (some ⟨b, 0, none⟩)) ∧ RefW w' b g n f ∧ Below w.heap.size w w'
theorem rcopy_nil (w : World) : Calls Tryd.prog 24 #[.pointer none] w fun e w' => e = .returned (.pointer none) ∧ w = w' := by
  go_enter Tryd.func24, Tryd.ntmps24
  go_wp2_with (go_at_call 39; refine (rvalid_nil _).mono ?_; rintro e w' ⟨rfl, rfl⟩)
  go_ret
  exact ⟨rfl, rfl⟩
set_option maxHeartbeats 1000000 in
theorem rcopy_ok (b g n : Nat) (f : Nat → Bool) (w : World) (h : RefW w b g n f) : Calls Tryd.prog 24 #[.pointer (some ⟨b, 0, none⟩)] w (RCpV n f w) := by
  obtain ⟨i0, hi, hz0, hz1, hz2⟩ := info_parts info_bool
  obtain ⟨cap, hc, hnc, hcm⟩ := h.c0
  have hbl := h.bt
  have hgl := h.gt
  have hn0 : 0 < n := h.lo
  have hn1 := h.hi
  have hown : (w.alloc (.cells #[] 4)).ownsRow w.heap.size 4 1 (.slice (some ⟨w.heap.size, 0, none⟩) 0 0) 0 [] := World.ownsRow_lit w #[] 0 (Nat.le_refl _) (by decide) rfl
  have HO := Lib.hid hown
  have H := Lib.hid h
  clear h hown
  go_enter Tryd.func24, Tryd.ntmps24
  go_wp2_with (first
    | (go_at_call 39; refine (rvalid_yes _ _ _ _ _ H.out).mono ?_; rintro e w' ⟨rfl, rfl⟩)
    | (at_builtin; refine wpList_append_own _ rfl _ _ 52 rfl w.heap.size 4 i0 (.bool false) 1 1 Tryd.underlying52 hi hz0 hz1 hz2 rfl (by decide) _ _ _ rfl HO.out ⟨g, 0, none⟩ n cap ((List.range n).map fun i => .bool (f i)) rfl ?c0 ?c1 ?c2 ?c3 ?c4 ?c5 ?_))
  case c0 => simp
  case c1 =>
    intro j u hj
    obtain ⟨hjl, rfl⟩ := List.getElem?_eq_some_iff.1 hj
    simp at hjl
    have e : (⟨g, 0, none⟩ : Addr).add j = ⟨g, j, none⟩ := by unfold Addr.add; split <;> simp_all
    rw [e, World.cell?_alloc_lt _ _ _ hgl, H.out.val hjl]; simp
  case c2 =>
    intro u hu
    obtain ⟨j, _, rfl⟩ := List.mem_map.1 hu
    rfl
  case c3 => unfold maxLen; omega
  case c4 => omega
  case c5 => simp
  intro v' w1 hown' hgrow _
  have HV := Lib.hid (copyV_of_own (c := fun i => .bool (f i)) (by simpa using hown') (((Below.refl _ w).alloc (Nat.le_refl _) _).grown hgrow (by simp) (fun k hk => by simp [Value.ownBlock] at hk; omega)) hn0)
  clear hown' hgrow
  obtain ⟨g2, cap2, cur2, a1, a2, a3, a4, a5, a6, a7, a8⟩ := HV.out
  injection a2 with a2
  subst a2
  have HB := Lib.hid a3
  have HR : Hid (∀ W : World, Bk W w1.heap.size 66 #[.slice (some ⟨g2, 0, none⟩) n cap2] → Bk W g2 4 cur2 → RefW W w1.heap.size g2 n f) := fun W h1 h2 =>
    ⟨H.out.lo, H.out.hi, H.out.out, cap2, cur2, h1, h2, a4, a5, a6, a7⟩
  have H8 := Lib.hid a8
  have H1 := Lib.hid a1
  clear a1 a3 a4 a5 a6 a7 a8 HV
  go_wp2
  go_ret
  exact ⟨w1.heap.size, g2, H8.out.size, H1.out, rfl, HR.out _ (Bk.new w1 _ _) (HB.out.same (Below.heap_alloc _ _ _ HB.out.lt)), H8.out.alloc H8.out.size _⟩

/-! ### a pair -/
structure Pr where
  ok : Bool
  v : Option Addr
  u : Option Addr
  b : Nat
  g : Nat
  c : Nat
  d : Nat
/-- The program's set and the document's, both there (with the numbers F and H), or both nil. -/
structure PR (w : World) (P : Pr) (n : Nat) (F H : Nat → Bool) : Prop where
  no : P.ok = false → P.v = none ∧ P.u = none
  yes : P.ok = true → P.v = some ⟨P.b, 0, none⟩ ∧ P.u = some ⟨P.c, 0, none⟩ ∧ SetW w P.b P.g n F ∧ RefW w P.c P.d n H
theorem types_sr {w : World} {b g c d n m : Nat} {F H : Nat → Bool} (hs : SetW w b g n F) (hr : RefW w c d m H) : b ≠ c ∧ b ≠ d ∧ g ≠ c ∧ g ≠ d := by
  obtain ⟨_, _, h1, h2, _⟩ := hs.at_
  obtain ⟨_, _, h3, h4, _⟩ := hr.at_
  refine ⟨?_, ?_, ?_, ?_⟩ <;> rintro rfl
  · exact absurd (h1.uniq h3).1 (by decide)
  · exact absurd (h1.uniq h4).1 (by decide)
  · exact absurd (h2.uniq h3).1 (by decide)
  · exact absurd (h2.uniq h4).1 (by decide)
theorem types_ss {w : World} {b g b2 g2 n m : Nat} {F H : Nat → Bool} (hs : SetW w b g n F) (hr : SetW w b2 g2 m H) : b ≠ g2 ∧ g ≠ b2 := by
  obtain ⟨_, _, h1, h2, _⟩ := hs.at_
  obtain ⟨_, _, h3, h4, _⟩ := hr.at_
  refine ⟨?_, ?_⟩ <;> rintro rfl
  · exact absurd (h1.uniq h4).1 (by decide)
  · exact absurd (h2.uniq h3).1 (by decide)
theorem types_rr {w : World} {b g b2 g2 n m : Nat} {F H : Nat → Bool} (hs : RefW w b g n F) (hr : RefW w b2 g2 m H) : b ≠ g2 ∧ g ≠ b2 := by
  obtain ⟨_, _, h1, h2, _⟩ := hs.at_
  obtain ⟨_, _, h3, h4, _⟩ := hr.at_
  refine ⟨?_, ?_⟩ <;> rintro rfl
  · exact absurd (h1.uniq h4).1 (by decide)
  · exact absurd (h2.uniq h3).1 (by decide)
theorem PR.below {w w' : World} {P : Pr} {n : Nat} {F H : Nat → Bool} (a : PR w P n F H) (k : Below w.heap.size w w') : PR w' P n F H :=
  ⟨a.no, fun e => by obtain ⟨h1, h2, h3, h4⟩ := a.yes e; exact ⟨h1, h2, h3.below k, h4.below k⟩⟩
/-- What may turn with one of the two sets of P: the program's words; the document's answers; the document's struct. -/
def At (ok : Bool) (x : Nat) : Nat → Prop := fun k => ok = true ∧ k = x
theorem kept_at {ok : Bool} {x : Nat} {w w' : World} (h : ok = true → Kept (· = x) w w') (h2 : ok = false → w = w') : Kept (At ok x) w w' := by
  cases ok
  · rw [h2 rfl]; exact Kept.refl _ _
  · exact (h rfl).mono fun k _ e => ⟨rfl, e⟩

def okE (ok : Bool) (n : Nat) (i : Int) : Int := if ok then addE n i else 1
theorem p_add (w : World) (P : Pr) (n : Nat) (F H : Nat → Bool) (i : Int) (a : PR w P n F H) : Calls Tryd.prog 13 #[.pointer P.v, .int .i64 i] w fun e w' => e = .returned (.int .i64 (okE P.ok n i)) ∧ PR w' P n (setF F n i true) H ∧ Kept (At P.ok P.g) w w' := by
  cases hok : P.ok
  · obtain ⟨h1, h2⟩ := a.no hok
    rw [h1]
    exact (add_inv none i w (.inl rfl)).mono fun e w' ⟨k1, k2⟩ => ⟨k1, k2 ▸ ⟨fun _ => ⟨h1, h2⟩, fun e => by rw [hok] at e; cases e⟩, k2 ▸ Kept.refl _ _⟩
  · obtain ⟨h1, h2, h3, h4⟩ := a.yes hok
    rw [h1]
    exact (add_any P.b P.g n F i w h3).mono fun e w' ⟨k1, k2, k3⟩ => ⟨k1, ⟨fun e => (by rw [hok] at e; cases e), fun _ => ⟨h1, h2, k2, h4.kept k3 (fun e => (types_sr h3 h4).2.2.1 e.symm) (fun e => (types_sr h3 h4).2.2.2 e.symm)⟩⟩, k3.mono fun k _ e => ⟨rfl, e⟩⟩
theorem p_radd (w : World) (P : Pr) (n : Nat) (F H : Nat → Bool) (i : Int) (a : PR w P n F H) : Calls Tryd.prog 14 #[.pointer P.u, .int .i64 i] w fun e w' => e = .returned (.int .i64 (okE P.ok n i)) ∧ PR w' P n F (setF H n i true) ∧ Kept (At P.ok P.d) w w' := by
  cases hok : P.ok
  · obtain ⟨h1, h2⟩ := a.no hok
    rw [h2]
    exact (radd_nil i w).mono fun e w' ⟨k1, k2⟩ => ⟨k1, k2 ▸ ⟨fun _ => ⟨h1, h2⟩, fun e => by rw [hok] at e; cases e⟩, k2 ▸ Kept.refl _ _⟩
  · obtain ⟨h1, h2, h3, h4⟩ := a.yes hok
    rw [h2]
    exact (radd_any P.c P.d n H i w h4).mono fun e w' ⟨k1, k2, k3⟩ => ⟨k1, ⟨fun e => (by rw [hok] at e; cases e), fun _ => ⟨h1, h2, h3.kept k3 (fun e => (types_sr h3 h4).2.1 e) (fun e => (types_sr h3 h4).2.2.2 e), k2⟩⟩, k3.mono fun k _ e => ⟨rfl, e⟩⟩
theorem p_remove (w : World) (P : Pr) (n : Nat) (F H : Nat → Bool) (i : Int) (a : PR w P n F H) : Calls Tryd.prog 15 #[.pointer P.v, .int .i64 i] w fun e w' => e = .returned (.int .i64 (okE P.ok n i)) ∧ PR w' P n (setF F n i false) H ∧ Kept (At P.ok P.g) w w' := by
  cases hok : P.ok
  · obtain ⟨h1, h2⟩ := a.no hok
    rw [h1]
    exact (remove_inv none i w (.inl rfl)).mono fun e w' ⟨k1, k2⟩ => ⟨k1, k2 ▸ ⟨fun _ => ⟨h1, h2⟩, fun e => by rw [hok] at e; cases e⟩, k2 ▸ Kept.refl _ _⟩
  · obtain ⟨h1, h2, h3, h4⟩ := a.yes hok
    rw [h1]
    exact (remove_any P.b P.g n F i w h3).mono fun e w' ⟨k1, k2, k3⟩ => ⟨k1, ⟨fun e => (by rw [hok] at e; cases e), fun _ => ⟨h1, h2, k2, h4.kept k3 (fun e => (types_sr h3 h4).2.2.1 e.symm) (fun e => (types_sr h3 h4).2.2.2 e.symm)⟩⟩, k3.mono fun k _ e => ⟨rfl, e⟩⟩
theorem p_rremove (w : World) (P : Pr) (n : Nat) (F H : Nat → Bool) (i : Int) (a : PR w P n F H) : Calls Tryd.prog 16 #[.pointer P.u, .int .i64 i] w fun e w' => e = .returned (.int .i64 (okE P.ok n i)) ∧ PR w' P n F (setF H n i false) ∧ Kept (At P.ok P.d) w w' := by
  cases hok : P.ok
  · obtain ⟨h1, h2⟩ := a.no hok
    rw [h2]
    exact (rremove_nil i w).mono fun e w' ⟨k1, k2⟩ => ⟨k1, k2 ▸ ⟨fun _ => ⟨h1, h2⟩, fun e => by rw [hok] at e; cases e⟩, k2 ▸ Kept.refl _ _⟩
  · obtain ⟨h1, h2, h3, h4⟩ := a.yes hok
    rw [h2]
    exact (rremove_any P.c P.d n H i w h4).mono fun e w' ⟨k1, k2, k3⟩ => ⟨k1, ⟨fun e => (by rw [hok] at e; cases e), fun _ => ⟨h1, h2, h3.kept k3 (fun e => (types_sr h3 h4).2.1 e) (fun e => (types_sr h3 h4).2.2.2 e), k2⟩⟩, k3.mono fun k _ e => ⟨rfl, e⟩⟩
theorem p_clear (w : World) (P : Pr) (n : Nat) (F H : Nat → Bool) (a : PR w P n F H) : Calls Tryd.prog 17 #[.pointer P.v] w fun e w' => e = .returned (.tuple #[]) ∧ PR w' P n (fun _ => false) H ∧ Kept (At P.ok P.g) w w' := by
  cases hok : P.ok
  · obtain ⟨h1, h2⟩ := a.no hok
    rw [h1]
    exact (clear_inv none w (.inl rfl)).mono fun e w' ⟨k1, k2⟩ => ⟨k1, k2 ▸ ⟨fun _ => ⟨h1, h2⟩, fun e => by rw [hok] at e; cases e⟩, k2 ▸ Kept.refl _ _⟩
  · obtain ⟨h1, h2, h3, h4⟩ := a.yes hok
    rw [h1]
    exact (clear_ok P.b P.g n F w h3).mono fun e w' ⟨k1, k2, k3⟩ => ⟨k1, ⟨fun e => (by rw [hok] at e; cases e), fun _ => ⟨h1, h2, k2, h4.kept k3 (fun e => (types_sr h3 h4).2.2.1 e.symm) (fun e => (types_sr h3 h4).2.2.2 e.symm)⟩⟩, k3.mono fun k _ e => ⟨rfl, e⟩⟩
/-- P with the document's answers in another block. -/
def Pr.setd (P : Pr) (d' : Nat) : Pr := ⟨P.ok, P.v, P.u, P.b, P.g, P.c, d'⟩
theorem p_rclear (w : World) (P : Pr) (n : Nat) (F H : Nat → Bool) (a : PR w P n F H) : Calls Tryd.prog 18 #[.pointer P.u] w fun e w' => e = .returned (.tuple #[]) ∧ (∃ d', w.heap.size ≤ d' ∧ PR w' (P.setd d') n F (fun _ => false)) ∧ Kept (At P.ok P.c) w w' := by
  cases hok : P.ok
  · obtain ⟨h1, h2⟩ := a.no hok
    rw [h2]
    exact (rclear_nil w).mono fun e w' ⟨k1, k2⟩ => ⟨k1, ⟨w.heap.size, Nat.le_refl _, fun _ => ⟨h1, h2⟩, fun e => (by have e2 : P.ok = true := e; rw [hok] at e2; cases e2)⟩, k2 ▸ Kept.refl _ _⟩
  · obtain ⟨h1, h2, h3, h4⟩ := a.yes hok
    rw [h2]
    exact (rclear_ok P.c P.d n H w h4).mono fun e w' ⟨k1, ⟨d', k2, k4⟩, k3⟩ => ⟨k1, ⟨d', k2, fun e => (by have e2 : P.ok = false := e; rw [hok] at e2; cases e2), fun _ => ⟨h1, h2, h3.kept k3 (fun e => (types_sr h3 h4).1 e) (fun e => (types_sr h3 h4).2.2.1 e), k4⟩⟩, k3.mono fun k _ e => ⟨rfl, e⟩⟩

/-- What Union and Minus answer; whether they turn anything. -/
def both (P T : Pr) (n m : Nat) : Bool := P.ok && T.ok && decide (n = m)
def coE (P T : Pr) (n m : Nat) : Int := if P.ok && T.ok then (if n = m then 0 else 2) else 1
def coF (P T : Pr) (n m : Nat) (F G : Nat → Bool) : Nat → Bool := if both P T n m then G else F
/-- The two pairs share no block that a call may turn. -/
def Dis (P T : Pr) : Prop := P.ok = true → T.ok = true → P.g ≠ T.g ∧ P.d ≠ T.d ∧ P.c ≠ T.c
theorem PR.same {w : World} {P : Pr} {n : Nat} {F H : Nat → Bool} (a : PR w P n F H) {w' : World} (e : w = w') : PR w' P n F H := e ▸ a
theorem drew_kept {S : Nat → Prop} (w : World) (q : Nat) : Kept S w (w.drewN q) := (Kept.refl S w).drewN q
theorem PR.drewN {w : World} {P : Pr} {n : Nat} {F H : Nat → Bool} (a : PR w P n F H) (q : Nat) : PR (w.drewN q) P n F H := a.below (bel_drewN (Below.refl _ _) q)
theorem p_co (u1 : Bool) (w : World) (P T : Pr) (n m : Nat) (F H Ft Ht : Nat → Bool) (a : PR w P n F H) (t : PR w T m Ft Ht) (d : Dis P T) :
    Calls Tryd.prog (if u1 then 19 else 21) #[.pointer P.v, .pointer T.v] w fun e w' => e = .returned (.int .i64 (coE P T n m)) ∧ PR w' P n (coF P T n m F (if u1 then un F Ft else mi F Ft)) H ∧ Kept (At P.ok P.g) w w' := by
  cases hok : P.ok
  · obtain ⟨h1, h2⟩ := a.no hok
    rw [h1]
    have e1 : coE P T n m = 1 := by simp [coE, hok]
    have e2 : ∀ G, coF P T n m F G = F := fun G => by simp [coF, both, hok]
    rw [e1, e2]
    cases u1
    · exact (minus_inv1 none T.v w (.inl rfl)).mono fun e w' ⟨k1, k2⟩ => ⟨k1, a.same k2, k2 ▸ Kept.refl _ _⟩
    · exact (union_inv1 none T.v w (.inl rfl)).mono fun e w' ⟨k1, k2⟩ => ⟨k1, a.same k2, k2 ▸ Kept.refl _ _⟩
  · obtain ⟨h1, h2, h3, h4⟩ := a.yes hok
    rw [h1]
    cases hot : T.ok
    · obtain ⟨g1, g2⟩ := t.no hot
      rw [g1]
      have e1 : coE P T n m = 1 := by simp [coE, hot]
      have e2 : ∀ G, coF P T n m F G = F := fun G => by simp [coF, both, hot]
      rw [e1, e2]
      cases u1
      · exact (minus_inv2 P.b P.g n F none w h3 (.inl rfl)).mono fun e w' ⟨k1, k2⟩ => ⟨k1, a.same k2, k2 ▸ Kept.refl _ _⟩
      · exact (union_inv2 P.b P.g n F none w h3 (.inl rfl)).mono fun e w' ⟨k1, k2⟩ => ⟨k1, a.same k2, k2 ▸ Kept.refl _ _⟩
    · obtain ⟨g1, g2, g3, g4⟩ := t.yes hot
      rw [g1]
      obtain ⟨hd, _, _⟩ := d hok hot
      by_cases hnm : n = m
      · subst hnm
        have e1 : coE P T n n = 0 := by simp [coE, hok, hot]
        have e2 : ∀ G, coF P T n n F G = G := fun G => by simp [coF, both, hok, hot]
        rw [e1, e2]
        cases u1
        · exact (minus_ok P.b P.g T.b T.g n F Ft w h3 g3 (.inl (fun e => hd e.symm))).mono fun e w' ⟨k1, k2, k3⟩ => ⟨k1, ⟨fun e => (by rw [hok] at e; cases e), fun _ => ⟨h1, h2, k2, h4.kept k3 (fun e => (types_sr h3 h4).2.2.1 e.symm) (fun e => (types_sr h3 h4).2.2.2 e.symm)⟩⟩, k3.mono fun k _ e => ⟨rfl, e⟩⟩
        · exact (union_ok P.b P.g T.b T.g n F Ft w h3 g3 (.inl (fun e => hd e.symm))).mono fun e w' ⟨k1, k2, k3⟩ => ⟨k1, ⟨fun e => (by rw [hok] at e; cases e), fun _ => ⟨h1, h2, k2, h4.kept k3 (fun e => (types_sr h3 h4).2.2.1 e.symm) (fun e => (types_sr h3 h4).2.2.2 e.symm)⟩⟩, k3.mono fun k _ e => ⟨rfl, e⟩⟩
      · have e1 : coE P T n m = 2 := by simp [coE, hok, hot, hnm]
        have e2 : ∀ G, coF P T n m F G = F := fun G => by simp [coF, both, hnm]
        rw [e1, e2]
        cases u1
        · refine (minus_arg P.b P.g n T.b T.g m F Ft w h3 g3 hnm).mono ?_
          rintro e w' ⟨k1, q, rfl⟩
          exact ⟨k1, a.drewN q, drew_kept w q⟩
        · refine (union_arg P.b P.g n T.b T.g m F Ft w h3 g3 hnm).mono ?_
          rintro e w' ⟨k1, q, rfl⟩
          exact ⟨k1, a.drewN q, drew_kept w q⟩
end Go.Proofs.YtaenemdclmnnaaaDoor
