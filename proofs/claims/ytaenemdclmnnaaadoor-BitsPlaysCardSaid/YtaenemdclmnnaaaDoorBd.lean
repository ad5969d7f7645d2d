/- The contracts of slices.Clone at []uint64 and []bool, of bits' Copy, Union and Minus. -/
import Derived.Test.YtaenemdclmnnaaaDoorBc
import Derived.Maps.AppendAt
import Derived.Deep.AppendLies
namespace Go.Proofs.YtaenemdclmnnaaaDoor
open Go.RowKit

/-- A slice of n elements in a block of its own: each element is what c says. -/
def CopyV (t : TypeId) (n : Nat) (c : Nat → Value) (w : World) (e : Ending) (w' : World) : Prop :=
  ∃ g cap cur, w.heap.size ≤ g ∧ e = .returned (.slice (some ⟨g, 0, none⟩) n cap) ∧ Bk w' g t cur ∧ cur.size = cap ∧ n ≤ cap ∧ cap ≤ maxLen ∧ (∀ i, i < n → cur[i]? = some (c i)) ∧ Below w.heap.size w w'

theorem copyV_of_own {t : TypeId} {n : Nat} {c : Nat → Value} {w w' : World} {v : Value} (h : w'.ownsRow w.heap.size t 1 v n ((List.range n).map c)) (hb : Below w.heap.size w w') (hn : 0 < n) : CopyV t n c w (.returned v) w' := by
  obtain ⟨_, h2⟩ := h
  rcases h2 with ⟨_, h0⟩ | ⟨g, cap, cur, rfl, h3, h4, h5, h6, h7, h8⟩
  · omega
  · refine ⟨g, cap, cur, h3, rfl, h4, by omega, h5, h6, fun i hi => ?_, hb⟩
    have e : (cur.toList.take (n * 1))[i]? = ((List.range n).map c)[i]? := by rw [h8]
    rw [List.getElem?_take_of_lt (by omega), Array.getElem?_toList] at e
    rw [e]; simp [hi]

set_option maxHeartbeats 400000 in
theorem clone_u64 (g n cap : Nat) (c : Nat → Value) (w : World) (hn : 0 < n) (hn2 : n ≤ 4096) (hc : ∀ i, i < n → w.cell? ⟨g, i, none⟩ = some (c i)) (h1 : ∀ i, (c i).oneCell' = true) (hg : g < w.heap.size) :
    Calls Tryd.prog 44 #[.slice (some ⟨g, 0, none⟩) n cap] w (CopyV 62 n c w) := by
  obtain ⟨i0, hi, hz0, hz1, hz2⟩ := info_parts info_u64
  have heq := Lib.run_eql_slice_nil (P := Tryd.prog) w 40 62 (some ⟨g, 0, none⟩) n cap 0 0 Tryd.underlying40
  have hown : (w.alloc (.cells #[] 62)).ownsRow w.heap.size 62 1 (.slice (some ⟨w.heap.size, 0, none⟩) 0 0) 0 [] := World.ownsRow_lit w #[] 0 (Nat.le_refl _) (by decide) rfl
  have HC := Lib.hid hc
  have H1 := Lib.hid h1
  have HO := Lib.hid hown
  clear hc h1 hown
  go_enter Tryd.func44, Tryd.ntmps44
  go_wp2_with (at_builtin; refine wpList_append_own _ rfl _ _ 40 rfl w.heap.size 62 i0 (.int .u64 0) 1 8 Tryd.underlying40 hi hz0 hz1 hz2 rfl (by decide) _ _ _ rfl HO.out ⟨g, 0, none⟩ n cap ((List.range n).map c) rfl ?c0 ?c1 ?c2 ?c3 ?c4 ?c5 ?_)
  case c0 => simp
  case c1 =>
    intro j u hj
    obtain ⟨hjl, rfl⟩ := List.getElem?_eq_some_iff.1 hj
    simp at hjl
    have e : (⟨g, 0, none⟩ : Addr).add j = ⟨g, j, none⟩ := by unfold Addr.add; split <;> simp_all
    rw [e, World.cell?_alloc_lt _ _ _ hg, HC.out j hjl]; simp
  case c2 =>
    intro u hu
    obtain ⟨j, _, rfl⟩ := List.mem_map.1 hu
    exact H1.out j
  case c3 => unfold maxLen; omega
  case c4 => omega
  case c5 => simp
  intro v' w1 hown' hgrow _
  have HV := Lib.hid (copyV_of_own (c := c) (by simpa using hown') (((Below.refl _ w).alloc (Nat.le_refl _) _).grown hgrow (by simp) (fun k hk => by simp [Value.ownBlock] at hk; omega)) hn)
  clear hown' hgrow
  go_wp2
  go_ret
  exact HV.out

set_option maxHeartbeats 400000 in
theorem clone_bool (g n cap : Nat) (c : Nat → Value) (w : World) (hn : 0 < n) (hn2 : n ≤ 4096) (hc : ∀ i, i < n → w.cell? ⟨g, i, none⟩ = some (c i)) (h1 : ∀ i, (c i).oneCell' = true) (hg : g < w.heap.size) :
    Calls Tryd.prog 34 #[.slice (some ⟨g, 0, none⟩) n cap] w (CopyV 4 n c w) := by
  obtain ⟨i0, hi, hz0, hz1, hz2⟩ := info_parts info_bool
  have heq := Lib.run_eql_slice_nil (P := Tryd.prog) w 52 4 (some ⟨g, 0, none⟩) n cap 0 0 Tryd.underlying52
  have hown : (w.alloc (.cells #[] 4)).ownsRow w.heap.size 4 1 (.slice (some ⟨w.heap.size, 0, none⟩) 0 0) 0 [] := World.ownsRow_lit w #[] 0 (Nat.le_refl _) (by decide) rfl
  have HC := Lib.hid hc
  have H1 := Lib.hid h1
  have HO := Lib.hid hown
  clear hc h1 hown
  go_enter Tryd.func34, Tryd.ntmps34
  go_wp2_with (at_builtin; refine wpList_append_own _ rfl _ _ 52 rfl w.heap.size 4 i0 (.bool false) 1 1 Tryd.underlying52 hi hz0 hz1 hz2 rfl (by decide) _ _ _ rfl HO.out ⟨g, 0, none⟩ n cap ((List.range n).map c) rfl ?c0 ?c1 ?c2 ?c3 ?c4 ?c5 ?_)
  case c0 => simp
  case c1 =>
    intro j u hj
    obtain ⟨hjl, rfl⟩ := List.getElem?_eq_some_iff.1 hj
    simp at hjl
    have e : (⟨g, 0, none⟩ : Addr).add j = ⟨g, j, none⟩ := by unfold Addr.add; split <;> simp_all
    rw [e, World.cell?_alloc_lt _ _ _ hg, HC.out j hjl]; simp
  case c2 =>
    intro u hu
    obtain ⟨j, _, rfl⟩ := List.mem_map.1 hu
    exact H1.out j
  case c3 => unfold maxLen; omega
  case c4 => omega
  case c5 => simp
  intro v' w1 hown' hgrow _
  have HV := Lib.hid (copyV_of_own (c := c) (by simpa using hown') (((Below.refl _ w).alloc (Nat.le_refl _) _).grown hgrow (by simp) (fun k hk => by simp [Value.ownBlock] at hk; omega)) hn)
  clear hown' hgrow
  go_wp2
  go_ret
  exact HV.out


def CpV (n : Nat) (f : Nat → Bool) (w : World) (e : Ending) (w' : World) : Prop :=
  ∃ b g, w.heap.size ≤ b ∧ w.heap.size ≤ g ∧ e = .returned (.pointer (some ⟨b, 0, none⟩)) ∧ SetW w' b g n f ∧ Below w.heap.size w w'
theorem copy_inv (v : Option Addr) (w : World) (h : Inv w v) : Calls Tryd.prog 23 #[.pointer v] w fun e w' => e = .returned (.pointer none) ∧ w = w' := by
  have H := Lib.hid h
  clear h
  go_enter Tryd.func23, Tryd.ntmps23
  go_wp2_with (go_at_call 38; refine (valid_no _ _ H.out).mono ?_; rintro e w' ⟨rfl, rfl⟩)
  go_ret
  exact ⟨rfl, rfl⟩
set_option maxHeartbeats 1000000 in
theorem copy_ok (b g n : Nat) (f : Nat → Bool) (w : World) (h : SetW w b g n f) : Calls Tryd.prog 23 #[.pointer (some ⟨b, 0, none⟩)] w (CpV n f w) := by
  obtain ⟨cap, hc1, hcap, hcm⟩ := h.c1
  have hc0 := h.c0
  have hbl := h.bt
  have H := Lib.hid h
  have HCL : Hid (∀ q, Calls Tryd.prog 44 #[.slice (some ⟨g, 0, none⟩) (nw n) cap] (w.drewN q) (CopyV 62 (nw n) (fun i => .int .u64 (word f i)) w)) := fun q =>
    (clone_u64 g (nw n) cap (fun i => .int .u64 (word f i)) (w.drewN q) (by unfold nw; omega) (by have := nw_le h.hi; omega) (fun i hi => h.word hi) (fun i => rfl) h.gt).mono
      fun e w' ⟨g', cap', cur, a1, a2, a3, a4, a5, a6, a7, a8⟩ => ⟨g', cap', cur, a1, a2, a3, a4, a5, a6, a7, ⟨a8.os, a8.tape, a8.output, a8.size, a8.block⟩⟩
  clear h
  go_enter Tryd.func23, Tryd.ntmps23
  go_wp2_with (go_at_call 38; refine (valid_yes _ _ _ _ _ H.out).mono ?_; rintro e w' ⟨rfl, rfl⟩)
  go_region_with (go_at_call 44; refine (HCL.out _).mono ?_; rintro e w1 ⟨g', cap', cur, hg', rfl, hb1, hs, h2, h3, h4, hbel⟩; have hc0' := (hbel.cell (p := ⟨b, 0, none⟩) hbl).trans hc0; have HH := Lib.hid (And.intro hb1 (And.intro hs h4)); clear hb1 hs h4)
  all_goals
    have hgl : g' < w1.heap.size := HH.out.1.lt
    have HN := Lib.hid hgl
    clear hgl
    go_wp2
    go_ret
    have hb2 := Bk.new w1 42 #[.int .i64 n, .slice (some ⟨g', 0, none⟩) (nw n) cap']
    exact ⟨w1.heap.size, g', hbel.size, hg', rfl, ⟨H.out.lo, H.out.hi, H.out.out, cap', cur, hb2, HH.out.1.same (Below.heap_alloc _ _ _ HN.out), HH.out.2.1, h2, h3, HH.out.2.2⟩, hbel.alloc hbel.size _⟩
end Go.Proofs.YtaenemdclmnnaaaDoor
