/- Slices of references as lists; one resource more behind a slice of one's own; the contract of the program's All, and of slices.Equal. -/
import Derived.Test.YtfemfgpciogbeaaYf
namespace Go.Proofs.Ytfemfgpciogbeaa
open Go.RowKit

theorem pairs_at : ∀ (l : List (Nat × Nat)) (j : Nat) (r : Nat × Nat), l[j]? = some r → (pairs l)[j * 2]? = some (.int .i64 r.1) ∧ (pairs l)[j * 2 + 1]? = some (.int .u32 r.2)
  | [], j, r, h => by simp at h
  | a :: l, 0, r, h => by
    simp at h; subst h
    simp [pairs]
  | a :: l, j + 1, r, h => by
    simp at h
    have ih := pairs_at l j r h
    have e : pairs (a :: l) = .int .i64 a.1 :: .int .u32 a.2 :: pairs l := rfl
    have e1 : (j + 1) * 2 = j * 2 + 1 + 1 := by omega
    rw [e, e1, List.getElem?_cons_succ, List.getElem?_cons_succ, List.getElem?_cons_succ, List.getElem?_cons_succ]
    exact ih

/-- The slice value v reads as the references l. -/
def Sr (w : World) (v : Value) (l : List (Nat × Nat)) : Prop :=
  ∃ a c, v = .slice a l.length c ∧ (0 < l.length → ∃ g cur, a = some ⟨g, 0, none⟩ ∧ Bk w g 86 cur ∧ ∀ j r, l[j]? = some r → cur[j * 2]? = some (.int .i64 r.1) ∧ cur[j * 2 + 1]? = some (.int .u32 r.2))
theorem Sr.below {w w' : World} {v : Value} {l : List (Nat × Nat)} (h : Sr w v l) (hb : Below w.heap.size w w') : Sr w' v l := by
  obtain ⟨a, c, e, h⟩ := h
  refine ⟨a, c, e, fun h0 => ?_⟩
  obtain ⟨g, cur, e2, hg, hc⟩ := h h0
  exact ⟨g, cur, e2, hg.below hb, hc⟩
theorem Sr.kept {w w' : World} {v : Value} {l : List (Nat × Nat)} {b : Nat} {T : Tb} (h : Sr w v l) (k : Kept (· = b) w w') (ht : TabW w b T) : Sr w' v l := by
  obtain ⟨a, c, e, h⟩ := h
  refine ⟨a, c, e, fun h0 => ?_⟩
  obtain ⟨g, cur, e2, hg, hc⟩ := h h0
  have hn : g ≠ b := by rintro rfl; exact absurd (hg.uniq ht.bk).1 (by decide)
  exact ⟨g, cur, e2, hg.kept k hn, hc⟩
theorem Sr.of_own {w : World} {b : Nat} {v : Value} {l : List (Nat × Nat)} (h : w.ownsRow b 86 2 v l.length (pairs l)) : Sr w v l := by
  rcases h.2 with ⟨rfl, h0⟩ | ⟨g, cap, cur, rfl, h1, h2, h3, h4, h5, h6⟩
  · have : l = [] := List.eq_nil_of_length_eq_zero h0
    subst this
    exact ⟨none, 0, rfl, fun h => by simp at h⟩
  · refine ⟨_, cap, rfl, fun _ => ⟨g, cur, rfl, h2, fun j r hj => ?_⟩⟩
    have hjl : j < l.length := (List.getElem?_eq_some_iff.1 hj).1
    have := pairs_at l j r hj
    rw [← h6, List.getElem?_take_of_lt (by omega), List.getElem?_take_of_lt (by omega), Array.getElem?_toList, Array.getElem?_toList] at this
    exact this
theorem Sr.at {w : World} {a : Option Addr} {n c : Nat} {l : List (Nat × Nat)} (h : Sr w (.slice a n c) l) {j : Nat} {r : Nat × Nat} (hj : l[j]? = some r) : ∃ g, a = some ⟨g, 0, none⟩ ∧ g < w.heap.size ∧ w.cell? ⟨g, j * 2, none⟩ = some (.int .i64 r.1) ∧ w.cell? ⟨g, j * 2 + 1, none⟩ = some (.int .u32 r.2) := by
  obtain ⟨a', c', e, h⟩ := h
  injection e with e1 e2 e3
  subst e1
  have hjl : j < l.length := (List.getElem?_eq_some_iff.1 hj).1
  obtain ⟨g, cur, e2, hg, hc⟩ := h (by omega)
  exact ⟨g, e2, hg.lt, by rw [hg.cell]; exact (hc j r hj).1, by rw [hg.cell]; exact (hc j r hj).2⟩
theorem Sr.len {w : World} {v : Value} {l : List (Nat × Nat)} (h : Sr w v l) : ∃ a c, v = .slice a l.length c := by
  obtain ⟨a, c, e, _⟩ := h
  exact ⟨a, c, e⟩

/-- Taken, told by what its slice reads as. -/
def TkS (l : List (Nat × Nat)) (w : World) (e : Ending) (w' : World) : Prop := ∃ a c, e = .returned (.slice a l.length c) ∧ Sr w' (.slice a l.length c) l ∧ Below w.heap.size w w'
theorem taken_s (b : Nat) (T : Tb) (w : World) (h : TabW w b T) : Calls Try.prog 59 #[.pointer (some ⟨b, 0, none⟩)] w (TkS T.now w) := by
  refine (taken_ok b T w h).mono ?_
  rintro e w' ⟨v, rfl, h1, _, h3⟩
  have hs := Sr.of_own h1
  obtain ⟨a, c, rfl⟩ := hs.len
  exact ⟨a, c, rfl, hs, h3⟩


/-! ### one resource more -/
/-- What a slice of one's own is behind an append of one. -/
def AppO (base : Nat) (l : List Ro) (r : Ro) (v : Value) (w : World) (v' : Value) (w' : World) : Prop :=
  w'.ownsRow base 33 3 v' (l ++ [r]).length (ocls (l ++ [r])) ∧ Kept (fun g => v.ownBlock = some g) w w'
theorem app_o {W : World} {base x n : Nat} {p : Option Addr} {c : Nat} {l : List Ro} {r : Ro} (hn : l.length = n) (ho : W.ownsRow base 33 3 (.slice p n c) l.length (ocls l)) (hx : Bk W x 33 r.cl.toArray) (hl : l.length ≤ 1000) (hb : base ≤ W.heap.size) :
    ∃ p' c' W', (Builtin.append_ #[48, 48] 48 #[.slice p n c, .slice (some ⟨x, 0, none⟩) 1 1]).run Try.prog W = .ok (.slice p' (n + 1) c') W' ∧ AppO base l r (.slice p n c) W (.slice p' (n + 1) c') W' := by
  subst hn
  obtain ⟨j0, hj, hy0, hy1, hy2⟩ := info_parts info_out
  obtain ⟨v', W', hr, hown, hgr, _⟩ := run_append_own (P := Try.prog) (w := W) base 48 48 33 j0 _ 3 24 Try.underlying48 hj hy0 hy1 hy2 rfl (by decide) (.slice p l.length c) l.length (ocls l) ho
    ⟨x, 0, none⟩ 1 1 r.cl rfl (fun j u hj => by
      have e : (⟨x, 0, none⟩ : Addr).add j = ⟨x, j, none⟩ := by unfold Addr.add; split <;> simp_all
      rw [e, hx.cell]
      simpa using hj) (Ro.cl_one r) (by unfold maxLen; omega) (by omega) hb
  have ho2 : W'.ownsRow base 33 3 v' (l ++ [r]).length (ocls (l ++ [r])) := by
    rw [ocls_snoc, List.length_append]; exact hown
  obtain ⟨p', c', rfl⟩ := own_form ho2
  have e1 : (l ++ [r]).length = l.length + 1 := by simp
  refine ⟨p', c', W', by rw [← e1]; exact hr, by rw [← e1]; exact ho2, ⟨hgr.os, hgr.tape, hgr.output, hgr.size, fun k hk hs => hgr.block k hk fun e => hs e.symm⟩⟩

theorem wpList_app_o {w : World} {ops : Array Oper} {rest : List Oper} {o : Oper} {a : Act} {Q : Exit → Act → World → Prop} (hgd : o.guard = none) (s x : Operand)
    (ho : o.op = .call { callee := .builtin .append, args := #[s, x], argTypes := #[48, 48] }) {base n g : Nat} {p : Option Addr} {c : Nat} {l : List Ro} (r : Ro) (hs : a.eval s = .slice p n c) (hx : a.eval x = .slice (some ⟨g, 0, none⟩) 1 1)
    (hn : l.length = n) (hown : w.ownsRow base 33 3 (.slice p n c) l.length (ocls l)) (hg : Bk w g 33 r.cl.toArray) (hl : l.length ≤ 1000) (hb : base ≤ w.heap.size)
    (h : ∀ p' c' w', Hid (AppO base l r (.slice p n c) w (.slice p' (n + 1) c') w') → wpList Try.prog ops Q rest (a.put o.dst (.slice p' (n + 1) c')) w') : wpList Try.prog ops Q (o :: rest) a w := by
  subst hn
  obtain ⟨j0, hj, hy0, hy1, hy2⟩ := info_parts info_out
  refine wpList_append_own _ hgd s x 48 ho base 33 j0 _ 3 24 Try.underlying48 hj hy0 hy1 hy2 rfl (by decide) _ _ _ hs hown ⟨g, 0, none⟩ 1 1 r.cl hx rfl (fun j u hj => by
      have e : (⟨g, 0, none⟩ : Addr).add j = ⟨g, j, none⟩ := by unfold Addr.add; split <;> simp_all
      rw [e, hg.cell]
      simpa using hj) (Ro.cl_one r) (by unfold maxLen; omega) (by omega) hb fun v' w' h5 h6 _ => ?_
  have ho2 : w'.ownsRow base 33 3 v' (l ++ [r]).length (ocls (l ++ [r])) := by
    rw [ocls_snoc, List.length_append]; exact h5
  obtain ⟨p', c', rfl⟩ := own_form ho2
  have e1 : (l ++ [r]).length = l.length + 1 := by simp
  rw [e1]
  refine h p' c' w' ⟨by rw [← e1]; exact ho2, ⟨h6.os, h6.tape, h6.output, h6.size, fun k hk hs => h6.block k hk fun e => hs e.symm⟩⟩

/-! ### All -/
/-- A new slice that holds l. -/
def NewO (l : List Ro) (w : World) (e : Ending) (w' : World) : Prop :=
  ∃ p c, e = .returned (.slice p l.length c) ∧ w'.ownsRow w.heap.size 33 3 (.slice p l.length c) l.length (ocls l) ∧ Below w.heap.size w w'
theorem dall_no (p : Option Addr) (w : World) (h : DInv w p) : Calls Try.prog 28 #[.pointer p] w fun e w' => e = .returned (.slice none 0 0) ∧ w = w' := by
  have H := Lib.hid h
  clear h
  go_enter Try.func28, Try.ntmps28
  go_wp2_with (go_at_call 38; refine (dvalid_no _ _ H.out).mono ?_; rintro e w' ⟨rfl, rfl⟩)
  go_ret
  exact ⟨rfl, rfl⟩
theorem Dk.all_take {D : Dk} {j : Nat} {r : Nat × Nat} (h : D.t.now[j]? = some r) : D.all.take (j + 1) = D.all.take j ++ [lro r] := by
  have : D.all[j]? = some (lro r) := by simp [Dk.all, h]
  rw [List.take_add_one, this]; rfl
set_option maxHeartbeats 2000000 in
theorem dall_ok (b k a : Nat) (D : Dk) (w : World) (h : DkW w b k a D) : Calls Try.prog 28 #[.pointer (some ⟨b, 0, none⟩)] w (NewO D.all w) := by
  have hc := h.c0
  have TK := Lib.hid (taken_s k D.t w h.tab)
  have hN := h.ok.held_len
  rw [← D.all_len] at hN
  have hM : D.t.now.length = D.all.length := by rw [D.all_len, Tb.now_len]
  have HR : Hid (∀ r ∈ D.t.now, r.1 ≤ 256 ∧ r.2 ≤ 4294967295) := fun r hr => by
    have h1 := Tb.mem_now.1 hr
    have h2 := h.ok.hi
    have h3 := h.ok.t.gm r.1
    omega
  have HT : Hid (∀ j r, D.t.now[j]? = some r → D.all.take (j + 1) = D.all.take j ++ [lro r]) := fun j r => Dk.all_take
  clear h
  generalize D.t.now = L at *
  generalize D.all = A at *
  go_enter Try.func28, Try.ntmps28
  go_wp2_with (first
    | (go_at_call 38; refine (dvalid_yes _ _ _ hc).mono ?_; rintro e w' ⟨rfl, rfl⟩)
    | (go_at_call 59; refine TK.out.mono ?_; rintro e w1 ⟨a, c, rfl, hs, hb⟩; have HS := Lib.hid hs; have HB := Lib.hid hb; clear hs hb))
  clear hc TK
  generalize hn : L.length = n at *
  have O0 : Hid (w1.ownsRow w1.heap.size 33 3 (.slice none 0 0) (A.take 0).length (ocls (A.take 0))) := World.ownsRow_nil _ _ _ _
  go_loopw [3, 15] (fun v i wr => ∃ j p q, j ≤ n ∧ v = .slice p j q ∧ i = .int .i64 j ∧ Hid (wr.ownsRow w1.heap.size 33 3 (.slice p j q) (A.take j).length (ocls (A.take j))) ∧ Hid (Below w1.heap.size w1 wr)) (fun _ i _ => n - (intOf i).toNat)
  case atStart => exact ⟨0, none, 0, Nat.zero_le _, rfl, rfl, O0.out, Below.refl _ _⟩
  case round =>
    clear O0
    obtain ⟨j, p, q, hj, rfl, rfl, HO, HW⟩ := hrel
    by_cases hlt : j < n
    · obtain ⟨r, hr⟩ : ∃ r, L[j]? = some r := ⟨_, List.getElem?_eq_getElem (by omega)⟩
      obtain ⟨g, rfl, hg, c0, c1⟩ := (HS.out.below HW.out).at hr
      obtain ⟨h1, h2⟩ := HR.out r (List.mem_of_getElem? hr)
      have ht := HT.out j r hr
      have HH := Lib.hid ht
      clear hr ht
      obtain ⟨i, y⟩ := r
      simp only at h1 h2 c0 c1
      have hb1 : w1.heap.size ≤ wr.heap.size := HW.out.size
      have hb0 : w.heap.size ≤ w1.heap.size := HB.out.size
      go_wp2_with (first
        | (go_at_call 42; refine (lease_ok _ _ _ (by omega) (by omega) (by omega) (by omega)).mono ?_; rintro e w7 ⟨rfl, hb7⟩; have HB7 := Lib.hid (bel2 ((Below.refl _ wr).alloc (Nat.le_refl _) _) hb7); clear hb7)
        | (at_builtin; refine wpList_app_o rfl _ _ rfl ⟨3, i, y⟩ rfl rfl ?c1 ((own_below HO.out HB7.out).alloc _) (Bk.new w7 33 #[.int .i64 3, .int .i64 i, .int .u32 y]) ?c2 ?c3 ?_))
      case c1 => rw [List.length_take]; omega
      case c2 => rw [List.length_take]; omega
      case c3 => have := HB7.out.size; simp; omega
      intro p' c' w8 HA
      have HF : Hid (w8.ownsRow w1.heap.size 33 3 (.slice p' (j + 1) c') (A.take (j + 1)).length (ocls (A.take (j + 1))) ∧ Below w1.heap.size w1 w8) := by
        have h8 := HA.out
        unfold AppO at h8
        rw [← show (A.take (j + 1)) = A.take j ++ [⟨3, i, y⟩] from HH.out] at h8
        refine ⟨h8.1, (HW.out.trans (HB7.out.mono hb1)).trans ?_⟩
        have hbk : Below w7.heap.size w7 (w7.alloc (.cells #[.int .i64 3, .int .i64 i, .int .u32 y] 33)) := (Below.refl _ _).alloc (Nat.le_refl _) _
        refine (hbk.mono (Nat.le_trans hb1 HB7.out.size)).trans ?_
        exact h8.2.below (by have := HB7.out.size; simp; omega) fun g e => ((own_below HO.out HB7.out).lt g e).1
      clear HA
      go_wp2
      go_roundw
      case rel => exact ⟨j + 1, p', c', by omega, rfl, by go_num, HF.out.1, HF.out.2⟩
      case measure => simp [intOf]; omega
    · obtain rfl : j = n := by omega
      go_wp2
      go_ret
      have e1 : A.take j = A := List.take_of_length_le (by omega)
      have := HO.out
      rw [e1] at this
      rw [hM] at *
      exact ⟨p, q, rfl, own_lower this HB.out.size, HB.out.trans (HW.out.mono HB.out.size)⟩

/-! ### slices.Equal -/
theorem RdO.cap {w : World} {a : Option Addr} {n c : Nat} {l : List Ro} (h : RdO w (.slice a n c) l) : n = l.length ∧ l.length ≤ c ∧ c ≤ 9223372036854775807 ∧ (a = none → c = 0) := by
  obtain ⟨a', c', e, h1, h2, h3, _⟩ := h
  injection e with e1 e2 e3
  subst e1 e2 e3
  exact ⟨rfl, h1, h2, h3⟩
set_option maxRecDepth 100000 in
set_option maxHeartbeats 1000000 in
theorem equal_yes (a a' : Option Addr) (n n' c c' : Nat) (l : List Ro) (w : World) (h : RdO w (.slice a n c) l) (h' : RdO w (.slice a' n' c') l) :
    Calls Try.prog 27 #[.slice a n c, .slice a' n' c'] w fun e w' => e = .returned (.bool true) ∧ Below w.heap.size w w' := by
  obtain ⟨rfl, h1, h2, _⟩ := h.cap
  obtain ⟨rfl, _⟩ := h'.cap
  have H := Lib.hid h
  have H' := Lib.hid h'
  clear h h'
  go_enter Try.func27, Try.ntmps27
  go_wp2
  go_loopw [13] (fun i wr => ∃ k : Nat, k ≤ l.length ∧ i = .int .i64 k ∧ Hid (Below w.heap.size w wr)) (fun i _ => l.length - (intOf i).toNat)
  case atStart => exact ⟨0, Nat.zero_le _, rfl, Below.refl _ _⟩
  case round =>
    obtain ⟨k, hk, rfl, HB⟩ := hrel
    by_cases hlt : k < l.length
    · obtain ⟨g, off, rfl, hg, hc⟩ := (H.out.below HB.out).cell hlt
      obtain ⟨g', off', rfl, hg', hc'⟩ := (H'.out.below HB.out).cell hlt
      generalize l[k] = x at *
      obtain ⟨k', i, y⟩ := x
      obtain ⟨c0, c1, c2⟩ := hc
      obtain ⟨d0, d1, d2⟩ := hc'
      simp only at c0 c1 c2 d0 d1 d2
      go_wp2
      go_quiet (fail)
      go_wp2
      exact ⟨⟨k + 1, by omega, by go_num, bel_drewN HB.out _⟩, by simp [intOf]; omega⟩
    · obtain rfl : k = l.length := by omega
      clear hlt
      go_wp2
      go_ret
      exact ⟨rfl, HB.out⟩
end Go.Proofs.Ytfemfgpciogbeaa
