/- The contracts of slices.BinarySearchFunc, as the program calls it, and of place. -/
import Derived.Test.YtlnjgbdekcgmpaaEb
namespace Go.Proofs.Ytlnjgbdekcgmpaa
open Go.RowKit

theorem count_boundary (p : Int → Bool) : ∀ (l : List Int) (i : Nat), i ≤ l.length → (∀ t y, l[t]? = some y → t < i → p y = true) → (∀ t y, l[t]? = some y → i ≤ t → p y = false) → l.countP p = i
  | [], i, hi, _, _ => by simp at hi; simp [hi]
  | a :: r, 0, _, _, h2 => by
    rw [List.countP_eq_zero]
    intro y hy
    obtain ⟨t, ht, rfl⟩ := List.getElem_of_mem hy
    rw [h2 t _ (List.getElem?_eq_getElem ht) (Nat.zero_le _)]
    decide
  | a :: r, i + 1, hi, h1, h2 => by
    have ha : p a = true := h1 0 a rfl (Nat.succ_pos _)
    rw [List.countP_cons_of_pos ha, count_boundary p r i (by simpa using hi) (fun t y hy ht => h1 (t + 1) y (by simpa using hy) (by omega)) (fun t y hy ht => h2 (t + 1) y (by simpa using hy) (by omega))]

def IsPair (e : Ending) (n : Nat) : Prop := ∃ bb, e = .returned (.tuple #[.int .i64 n, .bool bb])
set_option maxHeartbeats 2000000 in
theorem search_ok (x : Nat) (id : Int) (a : Option Addr) (c : Nat) (xs : List Int) (cft : Int → Int) (w : World) (hr : Rd w (.slice a xs.length c) xs) (hl : xs.length ≤ 1000)
    (hcmp : ∀ W, Below w.heap.size w W → ∀ y ∈ xs, Calls Try.prog 47 #[.int .i64 y, .int .i64 id, .pointer (some ⟨x, 0, none⟩)] W fun e w' => e = .returned (.int .i64 (cft y)) ∧ Below W.heap.size W w')
    (hmono : xs.Pairwise fun y z => cft z < 0 → cft y < 0) :
    Calls Try.prog 46 #[.slice a xs.length c, .int .i64 id, .func (.func 47) #[] #[.pointer (some ⟨x, 0, none⟩)]] w fun e w' =>
      IsPair e (xs.countP fun y => decide (cft y < 0)) ∧ Below w.heap.size w w' := by
  have HR := Lib.hid hr
  have HC := Lib.hid hcmp
  have HM : Hid (∀ p q y z, xs[p]? = some y → xs[q]? = some z → p ≤ q → cft z < 0 → cft y < 0) := fun p q y z hp hq hpq hz => by
    rcases Nat.lt_or_eq_of_le hpq with h | h
    · obtain ⟨h1, rfl⟩ := List.getElem?_eq_some_iff.1 hp
      obtain ⟨h2, rfl⟩ := List.getElem?_eq_some_iff.1 hq
      exact List.pairwise_iff_getElem.1 hmono p q h1 h2 h hz
    · subst h
      rw [hp] at hq
      rw [Option.some.inj hq]; exact hz
  have HB : Hid (Below w.heap.size w w) := Below.refl _ _
  obtain ⟨hc1, hc2⟩ : xs.length ≤ c ∧ c ≤ 9223372036854775807 := by
    obtain ⟨a', c', ea, h1, h2, _⟩ := hr.len
    injection ea with _ _ ec
    exact ⟨by omega, by omega⟩
  obtain ⟨cnt, hcnt⟩ : ∃ q, (xs.countP fun y => decide (cft y < 0)) = q := ⟨_, rfl⟩
  rw [hcnt]
  have HCNT := Lib.hid hcnt
  clear hcnt
  generalize hN : xs.length = N at *
  have HN := Lib.hid hN
  clear hr hcmp hmono hN
  go_enter Try.func46, Try.ntmps46
  go_wp2
  go_loopw [9, 10] (fun s t wr => ∃ lo hi : Nat, s = .int .i64 lo ∧ t = .int .i64 hi ∧ lo ≤ hi ∧ hi ≤ N ∧ Hid (Below w.heap.size w wr) ∧ Hid ((∀ p y, xs[p]? = some y → p < lo → cft y < 0) ∧ (∀ p y, xs[p]? = some y → hi ≤ p → 0 ≤ cft y))) (fun s t _ => (intOf t).toNat - (intOf s).toNat)
  case atStart => exact ⟨0, N, rfl, rfl, Nat.zero_le _, Nat.le_refl _, HB, (⟨fun p y _ h => absurd h (Nat.not_lt_zero _), fun p y hp h => by have := (List.getElem?_eq_some_iff.1 hp).1; have := HN.out; omega⟩ : (∀ p y, xs[p]? = some y → p < 0 → cft y < 0) ∧ (∀ p y, xs[p]? = some y → N ≤ p → 0 ≤ cft y))⟩
  case round =>
    obtain ⟨lo, hi, rfl, rfl, hlh, hin, HB2, HI⟩ := hrel
    by_cases hlt : lo < hi
    · have hb : (lo + hi) / 2 < N := by omega
      obtain ⟨y, hy⟩ : ∃ y, xs[(lo + hi) / 2]? = some y := ⟨_, List.getElem?_eq_getElem (by rw [HN.out]; exact hb)⟩
      have HY := Lib.hid hy
      obtain ⟨g, off, rfl, hg, hcell⟩ : ∃ g off, a = some ⟨g, off, none⟩ ∧ g < wr.heap.size ∧ wr.cell? ⟨g, off + (lo + hi) / 2, none⟩ = some (.int .i64 y) := by
        have hr2 := HR.out.below HB2.out
        rw [← HN.out] at hr2 hb
        obtain ⟨g, off, e1, e2, e3⟩ := hr2.cell hb
        refine ⟨g, off, e1, e2, ?_⟩
        rw [e3, ← Option.some.inj ((List.getElem?_eq_getElem hb).symm.trans hy)]
      have cm := HC.out wr HB2.out y (List.mem_of_getElem? hy)
      have CM := Lib.hid cm
      clear hy hg cm
      by_cases hyx : cft y < 0
      · go_wp2_with (go_at_call 47; refine CM.out.mono ?_; rintro e w5 ⟨rfl, hb5⟩; have HB5 := Lib.hid hb5; clear hb5)
        go_roundw
        case measure => simp [intOf]; omega
        case rel =>
          refine ⟨(lo + hi) / 2 + 1, hi, by simp; try omega, rfl, by omega, hin, HB2.out.trans (HB5.out.mono HB2.out.size), ?_⟩
          exact (⟨fun p z hp h => HM.out p _ z y hp HY.out (by omega) hyx, HI.out.2⟩ : (∀ p y, xs[p]? = some y → p < (lo + hi) / 2 + 1 → cft y < 0) ∧ (∀ p y, xs[p]? = some y → hi ≤ p → 0 ≤ cft y))
      · go_wp2_with (go_at_call 47; refine CM.out.mono ?_; rintro e w5 ⟨rfl, hb5⟩; have HB5 := Lib.hid hb5; clear hb5)
        go_roundw
        case measure => simp [intOf]; omega
        case rel =>
          refine ⟨lo, (lo + hi) / 2, rfl, by simp; try omega, by omega, by omega, HB2.out.trans (HB5.out.mono HB2.out.size), ?_⟩
          exact (⟨HI.out.1, fun p z hp h => Int.not_lt.1 fun hz => Int.not_lt.2 hyx (HM.out _ p y z HY.out hp h hz)⟩ : (∀ p y, xs[p]? = some y → p < lo → cft y < 0) ∧ (∀ p y, xs[p]? = some y → (lo + hi) / 2 ≤ p → 0 ≤ cft y))
    · obtain rfl : hi = lo := by omega
      have ecnt : cnt = hi := HCNT.out.symm.trans (count_boundary _ xs hi (by rw [HN.out]; exact hin) (fun t y hy ht => decide_eq_true (HI.out.1 t y hy ht)) (fun t y hy ht => decide_eq_false (Int.not_lt.2 (HI.out.2 t y hy ht))))
      subst ecnt
      by_cases hn : cnt < N
      · obtain ⟨y, hy⟩ : ∃ y, xs[cnt]? = some y := ⟨_, List.getElem?_eq_getElem (by rw [HN.out]; exact hn)⟩
        obtain ⟨g, off, rfl, hg, hcell⟩ : ∃ g off, a = some ⟨g, off, none⟩ ∧ g < wr.heap.size ∧ wr.cell? ⟨g, off + cnt, none⟩ = some (.int .i64 y) := by
          have hr2 := HR.out.below HB2.out
          rw [← HN.out] at hr2 hn
          obtain ⟨g, off, e1, e2, e3⟩ := hr2.cell hn
          refine ⟨g, off, e1, e2, ?_⟩
          rw [e3, ← Option.some.inj ((List.getElem?_eq_getElem hn).symm.trans hy)]
        have CM := Lib.hid (HC.out wr HB2.out y (List.mem_of_getElem? hy))
        clear hy hg
        obtain ⟨z, hz⟩ : ∃ z, cft y = z := ⟨_, rfl⟩
        obtain ⟨bz, hbz⟩ : ∃ bz, (z == 0) = bz := ⟨_, rfl⟩
        have CM2 : Hid (Calls Try.prog 47 #[.int .i64 y, .int .i64 id, .pointer (some ⟨x, 0, none⟩)] wr fun e w' => e = .returned (.int .i64 z) ∧ Below wr.heap.size wr w') := by have := CM.out; rw [hz] at this; exact this
        clear CM hz
        go_wp2_with (go_at_call 47; refine CM2.out.mono ?_; rintro e w5 ⟨rfl, hb5⟩; have HB5 := Lib.hid hb5; clear hb5)
        all_goals
          go_ret2
          exact ⟨⟨_, rfl⟩, HB2.out.trans (HB5.out.mono HB2.out.size)⟩
      · go_wp2
        go_ret2
        exact ⟨⟨_, rfl⟩, HB2.out⟩

/-- The ids as they stand under the times T. -/
def ens (T : Int → Option Int) (xs : List Int) : List En := xs.map fun x => (x, ti T x)
theorem place_ok (k m n : Nat) (v : Value) (T : Int → Option Int) (xs : List Int) (id : Int) (hi : I64 id) (w : World) (h : LineW w k m v n T xs) (hs : Srt (ens T xs)) (hl : xs.length ≤ 1000) :
    Calls Try.prog 40 #[.pointer (some ⟨k, 0, none⟩), .int .i64 id] w fun e w' => e = .returned (.int .i64 (pos (ens T xs) (id, ti T id))) ∧ Below w.heap.size w w' := by
  obtain ⟨w2, hw2⟩ : ∃ w2, w.alloc (.cells #[.pointer (some ⟨k, 0, none⟩)] 42) = w2 := ⟨_, rfl⟩
  have hB : Below w.heap.size w w2 := by rw [← hw2]; exact (Below.refl _ w).alloc (Nat.le_refl _) _
  have h2 := h.below hB
  have hx : w2.cell? ⟨w.heap.size, 0, none⟩ = some (.pointer (some ⟨k, 0, none⟩)) := by rw [← hw2]; exact (Bk.new w _ _).cell 0
  obtain ⟨a, c, ev, hc1, hc2, hr⟩ := h2.rd.len
  have hk1 := h2.c1
  rw [ev] at hk1
  have hmono : xs.Pairwise fun y z => cmpE (z, ti T z) (id, ti T id) < 0 → cmpE (y, ti T y) (id, ti T id) < 0 := by
    have := List.pairwise_map.1 hs
    refine this.imp fun hyz hz => ?_
    rw [cmpE_lt] at hz ⊢
    exact lt_trans hyz hz
  have hcmp : ∀ W, Below w2.heap.size w2 W → ∀ y ∈ xs, Calls Try.prog 47 #[.int .i64 y, .int .i64 id, .pointer (some ⟨w.heap.size, 0, none⟩)] W fun e w' => e = .returned (.int .i64 (cmpE (y, ti T y) (id, ti T id))) ∧ Below W.heap.size W w' := fun W hW y hy =>
    cmp1_ok w.heap.size k m n v T xs y id (h.rg y hy) hi W ((hW.cell (p := ⟨w.heap.size, 0, none⟩) (World.block_lt_of_cell? _ _ hx)).trans hx) (h2.below hW)
  have hse := Lib.hid (search_ok w.heap.size id a c xs (fun y => cmpE (y, ti T y) (id, ti T id)) w2 hr hl hcmp hmono)
  have hcnt : (xs.countP fun y => decide (cmpE (y, ti T y) (id, ti T id) < 0)) = pos (ens T xs) (id, ti T id) := by
    unfold pos ens
    rw [List.countP_map]
    refine List.countP_congr fun y _ => ?_
    simp [cmpE_lt]
  rw [hcnt] at hse
  generalize pos (ens T xs) (id, ti T id) = q at *
  have HB := Lib.hid hB
  clear h h2 hs hmono hcmp hcnt ev hr hB hl
  go_enter Try.func40, Try.ntmps40
  go_wp2_with (rw [hw2])
  go_wp2_with (go_at_call 46; refine hse.out.mono ?_; rintro e w' ⟨⟨bb, rfl⟩, hb5⟩; have HB5 := Lib.hid hb5; clear hb5)
  go_ret
  exact ⟨rfl, HB.out.trans (HB5.out.mono HB.out.size)⟩
end Go.Proofs.Ytlnjgbdekcgmpaa
