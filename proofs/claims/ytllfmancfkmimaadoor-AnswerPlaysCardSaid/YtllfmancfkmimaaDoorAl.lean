/- The contract of the document's Peek. -/
import Derived.Test.YtllfmancfkmimaaDoorAh
import Derived.Deep.RegionWith
import Derived.Deep.RegionHeldLaw
import Derived.Lib.AppendZeros
namespace Go.Proofs.YtllfmancfkmimaaDoor
open Go.RowKit

theorem run_append_sl {w : World} (base : Nat) (v : Value) (n : Nat) (xs : List Value) (hown : w.ownsRow base 3 1 v n xs) (vx : Value) (m : List Int) (hm : Sl w vx m) (h63 : n + m.length ≤ 1000000) (hbase : base ≤ w.heap.size) :
    ∃ v' w', (Builtin.append_ #[22, 22] 22 #[v, vx]).run Tryd.prog w = .ok v' w' ∧ w'.ownsRow base 3 1 v' (n + m.length) (xs ++ ints m) ∧ w.grownBy w' v.ownBlock := by
  obtain ⟨i0, hi, hz0, hz1, hz2⟩ := info_parts info_int
  obtain ⟨a0, c, rfl, h1, h2, h3, h4⟩ := hm
  cases a0 with
  | none =>
    have hc0 := h3 rfl
    subst hc0
    have : m = [] := List.eq_nil_of_length_eq_zero (by omega)
    subst this
    exact ⟨v, w, run_append_owned_none w base 22 22 3 i0 1 Tryd.underlying22 hi v n xs hown, by simpa [ints] using hown, World.grownBy.refl w _⟩
  | some b =>
    obtain ⟨g, off, cur, rfl, hg, hc⟩ := h4 b rfl
    obtain ⟨v', w', h5, h6, h7, _⟩ := run_append_own (P := Tryd.prog) (w := w) base 22 22 3 i0 (.int .i64 0) 1 8 Tryd.underlying22 hi hz0 hz1 hz2 rfl (by decide) v n xs hown ⟨g, off, none⟩ m.length c (ints m) (by simp [ints]) (fun j u hj => by
      have hjl : j < m.length := by have := (List.getElem?_eq_some_iff.1 hj).1; simpa [ints] using this
      have e : (⟨g, off, none⟩ : Addr).add j = ⟨g, off + j, none⟩ := by unfold Addr.add; split <;> simp_all
      rw [e, hg.cell, hc j m[j] (List.getElem?_eq_getElem hjl)]
      rw [← hj, ints_at (List.getElem?_eq_getElem hjl)]) (ints_one m) (by unfold maxLen; omega) (by omega) hbase
    exact ⟨v', w', h5, h6, h7⟩

theorem step_append_run {w : World} {ops : Array Oper} {o : Oper} {a : Act} {K : Act → World → Prop} {Q : Exit → Act → World → Prop} {E : Prop} (hgd : o.guard = none) (dst : Option Nat) (hd : o.dst = dst) (s x : Operand) (t tn : TypeId)
    (ho : o.op = .call { callee := .builtin .append, args := #[s, x], argTypes := #[t, tn] }) (vs vx : Value) (hs : a.eval s = vs) (hx : a.eval x = vx)
    (v' : Value) (w' : World) (hr : (Builtin.append_ #[t, tn] o.type #[vs, vx]).run Tryd.prog w = .ok v' w') (h : K (a.put dst v') w') :
    if Region.wanted o (yielded ops a.tmps) = true then Oper.wp Tryd.prog o a w K Q else E := by
  have hw : Region.wanted o (yielded ops a.tmps) = true := by simp [Region.wanted, hgd]
  rw [if_pos hw]
  exact Lib.wp_append_run w s x t tn ho vs vx hs hx v' w' hr (by rw [hd]; exact h)

theorem rpeek_low (b : Nat) (n : Int) (w : World) (hc0 : w.cell? ⟨b, 0, none⟩ = some (.bool true)) (h1 : n < 1) : Calls Tryd.prog 24 #[.pointer (some ⟨b, 0, none⟩), .int .i64 n] w fun e w' => e = .returned (.slice none 0 0) ∧ w = w' := by
  go_enter Tryd.func24, Tryd.ntmps24
  go_wp2_with (go_at_call 35; refine (rvalid_yes _ _ hc0).mono ?_; rintro e w' ⟨rfl, rfl⟩)
  go_ret
  exact ⟨rfl, rfl⟩
set_option maxRecDepth 100000 in
set_option maxHeartbeats 4000000 in
theorem rpeekc_sc (b N n c : Nat) (a : Addr) (_ : c ≤ 9223372036854775807) (h1 : 1 ≤ (n : Int)) (h2 : ¬ N < n) (h3 : n ≤ c) (v : Value) (w w1 : World) (hc0 : w.cell? ⟨b, 0, none⟩ = some (.bool true)) (hc1 : w.cell? ⟨b, 1, none⟩ = some (.slice (some a) N c)) (hbl : b < w.heap.size)
    (hrun : (Builtin.append_ #[22, 22] 22 #[.slice (some ⟨w.heap.size, 0, none⟩) 0 0, .slice (some a) n c]).run Tryd.prog (w.alloc (.cells #[] 3)).drew = .ok v w1) (hk : w1.cell? ⟨b, 1, none⟩ = w.cell? ⟨b, 1, none⟩) :
    Calls Tryd.prog 24 #[.pointer (some ⟨b, 0, none⟩), .int .i64 n] w fun e w' => e = .returned v ∧ w1 = w' := by
  go_enter Tryd.func24, Tryd.ntmps24
  go_wp2_with (go_at_call 35; refine (rvalid_yes _ _ hc0).mono ?_; rintro e w' ⟨rfl, rfl⟩)
  clear hc0
  have hk1 := hk.trans hc1
  go_region_held_law (fun W => W.cell? ⟨b, 1, none⟩ = some (.slice (some a) N c)) (first | exact hc1 | exact hk1 | (go_simp; done) | go_keep)
    ((refine step_append_run (by rfl) (some 25) (by rfl) _ _ _ _ (by rfl) _ _ (by rfl) (by rfl) _ _ hrun ?_))
  all_goals
    go_wp2
    go_ret
    exact ⟨rfl, rfl⟩
set_option maxRecDepth 100000 in
set_option maxHeartbeats 4000000 in
theorem rpeekc_se (b N c : Nat) (a : Addr) (_ : c ≤ 9223372036854775807) (hN : N ≤ c) (h1 : 1 ≤ (N : Int)) (v : Value) (w w1 : World) (hc0 : w.cell? ⟨b, 0, none⟩ = some (.bool true)) (hc1 : w.cell? ⟨b, 1, none⟩ = some (.slice (some a) N c)) (hbl : b < w.heap.size)
    (hrun : (Builtin.append_ #[22, 22] 22 #[.slice (some ⟨w.heap.size, 0, none⟩) 0 0, .slice (some a) N c]).run Tryd.prog (w.alloc (.cells #[] 3)).drew = .ok v w1) (hk : w1.cell? ⟨b, 1, none⟩ = w.cell? ⟨b, 1, none⟩) :
    Calls Tryd.prog 24 #[.pointer (some ⟨b, 0, none⟩), .int .i64 N] w fun e w' => e = .returned v ∧ w1 = w' := by
  go_enter Tryd.func24, Tryd.ntmps24
  go_wp2_with (go_at_call 35; refine (rvalid_yes _ _ hc0).mono ?_; rintro e w' ⟨rfl, rfl⟩)
  clear hc0
  have hk1 := hk.trans hc1
  go_region_held_law (fun W => W.cell? ⟨b, 1, none⟩ = some (.slice (some a) N c)) (first | exact hc1 | exact hk1 | (go_simp; done) | go_keep)
    ((refine step_append_run (by rfl) (some 25) (by rfl) _ _ _ _ (by rfl) _ _ (by rfl) (by rfl) _ _ hrun ?_))
  all_goals
    go_wp2
    go_ret
    exact ⟨rfl, rfl⟩
set_option maxRecDepth 100000 in
set_option maxHeartbeats 4000000 in
theorem rpeekc_sf (b N c : Nat) (n : Int) (a : Addr) (_ : c ≤ 9223372036854775807) (hN : N ≤ c) (h1 : (N : Int) < n) (h2 : 1 ≤ n) (v : Value) (w w1 : World) (hc0 : w.cell? ⟨b, 0, none⟩ = some (.bool true)) (hc1 : w.cell? ⟨b, 1, none⟩ = some (.slice (some a) N c)) (hbl : b < w.heap.size)
    (hrun : (Builtin.append_ #[22, 22] 22 #[.slice (some ⟨w.heap.size, 0, none⟩) 0 0, .slice (some a) N c]).run Tryd.prog (w.alloc (.cells #[] 3)).drew = .ok v w1) (hk : w1.cell? ⟨b, 1, none⟩ = w.cell? ⟨b, 1, none⟩) :
    Calls Tryd.prog 24 #[.pointer (some ⟨b, 0, none⟩), .int .i64 n] w fun e w' => e = .returned v ∧ w1 = w' := by
  go_enter Tryd.func24, Tryd.ntmps24
  go_wp2_with (go_at_call 35; refine (rvalid_yes _ _ hc0).mono ?_; rintro e w' ⟨rfl, rfl⟩)
  clear hc0
  have hk1 := hk.trans hc1
  go_region_held_law (fun W => W.cell? ⟨b, 1, none⟩ = some (.slice (some a) N c)) (first | exact hc1 | exact hk1 | (go_simp; done) | go_keep)
    ((refine step_append_run (by rfl) (some 25) (by rfl) _ _ _ _ (by rfl) _ _ (by rfl) (by rfl) _ _ hrun ?_))
  all_goals
    go_wp2
    go_ret
    exact ⟨rfl, rfl⟩
set_option maxRecDepth 100000 in
set_option maxHeartbeats 4000000 in
theorem rpeekc_ng (b : Nat) (n : Int) (h1 : 1 ≤ n) (v : Value) (w w1 : World) (hc0 : w.cell? ⟨b, 0, none⟩ = some (.bool true)) (hc1 : w.cell? ⟨b, 1, none⟩ = some (.slice none 0 0)) (hbl : b < w.heap.size)
    (hrun : (Builtin.append_ #[22, 22] 22 #[.slice (some ⟨w.heap.size, 0, none⟩) 0 0, .slice none 0 0]).run Tryd.prog (w.alloc (.cells #[] 3)).drew = .ok v w1) (hk : w1.cell? ⟨b, 1, none⟩ = w.cell? ⟨b, 1, none⟩) :
    Calls Tryd.prog 24 #[.pointer (some ⟨b, 0, none⟩), .int .i64 n] w fun e w' => e = .returned v ∧ w1 = w' := by
  go_enter Tryd.func24, Tryd.ntmps24
  go_wp2_with (go_at_call 35; refine (rvalid_yes _ _ hc0).mono ?_; rintro e w' ⟨rfl, rfl⟩)
  clear hc0
  have hk1 := hk.trans hc1
  go_region_held_law (fun W => W.cell? ⟨b, 1, none⟩ = some (.slice none 0 0)) (first | exact hc1 | exact hk1 | (go_simp; done) | go_keep)
    ((refine step_append_run (by rfl) (some 25) (by rfl) _ _ _ _ (by rfl) _ _ (by rfl) (by rfl) _ _ hrun ?_))
  all_goals
    go_wp2
    go_ret
    exact ⟨rfl, rfl⟩

theorem rpeek_ok (b : Nat) (n : Int) (L : List Int) (w : World) (h : SrcW 62 w b L) : Calls Tryd.prog 24 #[.pointer (some ⟨b, 0, none⟩), .int .i64 n] w (NewV (L.take n.toNat) w) := by
  obtain ⟨a, c, hc0, hc1, _, hsl, hbk⟩ := h.cells
  have hbl := hbk.lt
  have hle := h.ok.le
  obtain ⟨_, hcap, hcm, hnil⟩ := hsl.cap
  unfold maxLen at hcm
  by_cases h1 : n < 1
  · refine (rpeek_low b n w hc0 h1).mono ?_
    rintro e w' ⟨rfl, rfl⟩
    rw [show n.toNat = 0 by omega]
    exact ⟨_, rfl, World.ownsRow_nil _ _ _ _, Below.refl _ _⟩
  have hb0 : Below w.heap.size w (w.alloc (.cells #[] 3)).drew := bel_drew ((Below.refl _ w).alloc (Nat.le_refl _) _)
  have hbw : Below w.heap.size w (w.alloc (.cells #[] 3)).drew := hb0
  have key : ∀ k, k ≤ L.length → ∃ v w1, (Builtin.append_ #[22, 22] 22 #[.slice (some ⟨w.heap.size, 0, none⟩) 0 0, .slice a k c]).run Tryd.prog (w.alloc (.cells #[] 3)).drew = .ok v w1 ∧ NewV (L.take k) w (.returned v) w1 ∧ w1.cell? ⟨b, 1, none⟩ = w.cell? ⟨b, 1, none⟩ := fun k hk => by
    have hs : Sl (w.alloc (.cells #[] 3)).drew (.slice a k c) (L.take k) := (hsl.take hk).below hbw
    obtain ⟨v, w1, h2, h3, h4⟩ := run_append_sl w.heap.size _ 0 [] (show ((w.alloc (.cells #[] 3)).drew).ownsRow w.heap.size 3 1 (.slice (some ⟨w.heap.size, 0, none⟩) 0 0) 0 [] from own_empty w) _ _ hs (by rw [List.length_take]; omega) (by simp)
    have h5 := hb0.grown h4 (by simp) (fun k hk => own_lt (own_empty w) k hk)
    exact ⟨v, w1, h2, ⟨v, rfl, by simpa using h3, h5⟩, h5.cell (p := ⟨b, 1, none⟩) hbl⟩
  cases a with
  | none =>
    have hc := hnil rfl
    subst hc
    have hl : L.length = 0 := by omega
    obtain ⟨v, w1, k0, k1, k2⟩ := key 0 (Nat.zero_le _)
    rw [hl] at hc1
    have e2 : L.take n.toNat = L.take 0 := by rw [List.eq_nil_of_length_eq_zero hl]; simp
    rw [e2]
    refine (rpeekc_ng b n (by omega) v w w1 hc0 hc1 hbl k0 k2).mono ?_
    rintro e w' ⟨rfl, rfl⟩
    exact k1
  | some a =>
    by_cases h3 : (L.length : Int) < n
    · rw [show L.take n.toNat = L.take L.length by rw [List.take_length, List.take_of_length_le (by omega)]]
      obtain ⟨v, w1, k0, k1, k2⟩ := key _ (Nat.le_refl _)
      refine (rpeekc_sf b L.length c n a (by omega) hcap h3 (by omega) v w w1 hc0 hc1 hbl k0 k2).mono ?_
      rintro e w' ⟨rfl, rfl⟩
      exact k1
    obtain ⟨m, rfl⟩ : ∃ m : Nat, n = (m : Int) := ⟨n.toNat, by omega⟩
    rw [Int.toNat_natCast]
    obtain ⟨v, w1, k0, k1, k2⟩ := key m (by omega)
    by_cases h4 : m < L.length
    · refine (rpeekc_sc b L.length m c a (by omega) (by omega) (by omega) (by omega) v w w1 hc0 hc1 hbl k0 k2).mono ?_
      rintro e w' ⟨rfl, rfl⟩
      exact k1
    · obtain rfl : m = L.length := by omega
      refine (rpeekc_se b L.length c a (by omega) hcap (by omega) v w w1 hc0 hc1 hbl k0 k2).mono ?_
      rintro e w' ⟨rfl, rfl⟩
      exact k1
end Go.Proofs.YtllfmancfkmimaaDoor
