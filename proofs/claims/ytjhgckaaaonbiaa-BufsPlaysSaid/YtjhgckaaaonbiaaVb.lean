/- The contracts of the document's Bytes, set, Unpin. -/
import Derived.Test.YtjhgckaaaonbiaaVa
import Derived.Maps.AppendAt
import Derived.Laws.OwnMore
import Derived.Deep.Cut
import Derived.Deep.CutRange
namespace Go.Proofs.Ytjhgckaaaonbiaa
open Go.RowKit

set_option maxHeartbeats 1000000 in
theorem dbytes_no (c d : Nat) (F : Po) (x y z : Int) (h0 : F.chk x y z ≠ 0) (w : World) (h : DW w c d F) : Calls Try.prog 33 #[.pointer (some ⟨c, 0, none⟩), .agg #[.int .i64 x, .int .i64 y, .int .u32 z]] w fun e w' => e = .returned (.tuple #[.int .i64 0, .int .i64 (F.chk x y z)]) ∧ Below w.heap.size w w' := by
  have CK : Hid (∀ W, Below w.heap.size w W → Calls Try.prog 39 #[.pointer (some ⟨c, 0, none⟩), .agg #[.int .i64 x, .int .i64 y, .int .u32 z]] W fun e w' => e = .returned (.int .i64 (F.chk x y z)) ∧ Below W.heap.size W w') := fun W hW => dfind_ok c d F x y z W (h.below hW)
  have hE0 : (F.chk x y z != 0) = true := by simpa using h0
  generalize F.chk x y z = E at *
  clear h h0
  go_enter Try.func33, Try.ntmps33
  go_wp2_with (go_at_call 39; refine (CK.out _ ((Below.refl _ _).alloc (Nat.le_refl _) _)).mono ?_; rintro e w2 ⟨rfl, hb2⟩; have HB := Lib.hid (bel2 ((Below.refl _ _).alloc (Nat.le_refl _) _) hb2); clear hb2)
  go_ret2
  exact ⟨rfl, HB.out⟩
set_option maxHeartbeats 2000000 in
theorem dbytes_yes (c d i : Nat) (F : Po) (w : World) (h : DW w c d F) (hi : i < F.t.n) (hs : F.t.s i = 1) : Calls Try.prog 33 #[.pointer (some ⟨c, 0, none⟩), .agg #[.int .i64 2, .int .i64 i, .int .u32 (F.t.g i)]] w fun e w' => e = .returned (.tuple #[.int .i64 (F.m i), .int .i64 0]) ∧ Below w.heap.size w w' := by
  have a1 := h.ok.hi
  have hck := Po.chk_held hi hs
  have CK : Hid (∀ W, Below w.heap.size w W → Calls Try.prog 39 #[.pointer (some ⟨c, 0, none⟩), .agg #[.int .i64 2, .int .i64 i, .int .u32 (F.t.g i)]] W fun e w' => e = .returned (.int .i64 0) ∧ Below W.heap.size W w') := fun W hW => by
    have := dfind_ok c d F 2 i (F.t.g i) W (h.below hW)
    rw [hck] at this; exact this
  have HC : Hid (∀ W, Below w.heap.size w W → DW W c d F) := fun W hW => h.below hW
  have HI := Lib.hid hi
  obtain ⟨n, hn⟩ : ∃ n, F.t.n = n := ⟨_, rfl⟩
  have HN := Lib.hid hn
  have hin : i < n := by omega
  have hnb : n ≤ 64 := by omega
  have hfx : F.bx i = F.m i := if_pos hs
  clear h hck hi hs hn a1
  obtain ⟨fm, hfm⟩ : ∃ fm, F.m i = fm := ⟨_, rfl⟩
  rw [hfm] at hfx ⊢
  have HX := Lib.hid hfx
  clear hfx hfm
  go_enter Try.func33, Try.ntmps33
  go_wp2_with (go_at_call 39; refine (CK.out _ ((Below.refl _ _).alloc (Nat.le_refl _) _)).mono ?_; rintro e w2 ⟨rfl, hb2⟩; have HB := Lib.hid (bel2 ((Below.refl _ _).alloc (Nat.le_refl _) _) hb2); obtain ⟨q0, q1, q2, q3⟩ := box_o hb2; clear hb2)
  obtain ⟨cap, c0, c1, c2, hc1, hc2⟩ := (HC.out w2 HB.out).c0
  obtain ⟨i0, i1, i2, i3⟩ := (HC.out w2 HB.out).ci HI.out
  rw [HN.out] at c2 hc1
  generalize F.t.g i = fg at *
  rw [HX.out] at i3
  clear c0 c1 i0 i1 i2
  go_quiet (fail)
  go_wp2
  go_ret2
  exact ⟨rfl, bel_drewN HB.out _⟩
theorem dbytes_ok (c d : Nat) (F : Po) (x y z : Int) (w : World) (h : DW w c d F) : Calls Try.prog 33 #[.pointer (some ⟨c, 0, none⟩), .agg #[.int .i64 x, .int .i64 y, .int .u32 z]] w fun e w' => e = .returned (.tuple #[.int .i64 (F.size x y z), .int .i64 (F.chk x y z)]) ∧ Below w.heap.size w w' := by
  unfold Po.size
  by_cases h0 : F.chk x y z = 0
  · obtain ⟨rfl, i, rfl, hi, hs, rfl⟩ := Po.chk_pinned h0
    rw [if_pos h0, h0, Int.toNat_natCast]
    exact dbytes_yes c d i F w h hi hs
  · rw [if_neg h0]
    exact dbytes_no c d F x y z h0 w h
/-! ### set -/
theorem info_id : (Try.prog.info? 78).map (fun i => (i.zero, i.size, i.bytes)) = some (some (.agg #[.bool false, .bool false, .int .u32 0, .int .i64 0]), 4, 16) := by kernel_rfl
theorem dcl_one (s g x : Nat) : ∀ u ∈ dcl s g x, u.oneCell' = true := by
  intro u hu
  simp only [dcl, List.mem_cons, List.not_mem_nil, or_false] at hu
  rcases hu with rfl | rfl | rfl | rfl <;> rfl
theorem dcls_one (F : Po) (k : Nat) : ∀ u ∈ F.dcls k, u.oneCell' = true := by
  intro u hu
  obtain ⟨i, _, h⟩ := List.mem_flatMap.1 hu
  exact dcl_one _ _ _ u h
theorem own_id_form {w : World} {base n : Nat} {v : Value} {xs : List Value} (h : w.ownsRow base 78 4 v n xs) : ∃ p c, v = .slice p n c := by
  rcases h.2 with ⟨rfl, h0⟩ | ⟨g', cap, cur, rfl, _⟩
  · exact ⟨_, _, by rw [h0]⟩
  · exact ⟨_, _, rfl⟩
theorem dset_fin {w2 : World} {c g i n cap2 s0 g0 x : Nat} {F G : Po} {v0 : Value} {cur : Array Value} (hc : Bk w2 c 76 #[.bool true, .int .i64 F.room, v0]) (hg : Bk w2 g 78 cur) (hcg : c ≠ g) (h3 : n ≤ cap2) (h4 : cap2 ≤ maxLen) (h5 : cur.size = cap2 * 4) (hn0 : F.t.n = n)
    (hcur : ∀ j, j < n → ∀ q, q < 4 → cur[j * 4 + q]? = (dcl (F.t.s j) (F.t.g j) (F.bx j))[q]?) (hi : i < n) (hG : G.Ok) (hn : G.t.n = F.t.n) (hr : G.room = F.room) (hj : ∀ j, j ≠ i → G.t.s j = F.t.s j ∧ G.t.g j = F.t.g j ∧ G.bx j = F.bx j) (hd : dcl (G.t.s i) (G.t.g i) (G.bx i) = dcl s0 g0 x) :
    DW (((((w2.setCell ⟨g, i * 4, none⟩ (.bool (s0 == 1))).setCell ⟨g, i * 4 + 1, none⟩ (.bool (s0 == 2))).setCell ⟨g, i * 4 + 2, none⟩ (.int .u32 g0)).setCell ⟨g, i * 4 + 3, none⟩ (.int .i64 x)).setCell ⟨c, 2, none⟩ (.slice (some ⟨g, 0, none⟩) n cap2)) c g G := by
  have hsz : i * 4 + 4 ≤ cur.size := by rw [h5]; omega
  have k1 : Kept (· = g) w2 ((((w2.setCell ⟨g, i * 4, none⟩ (.bool (s0 == 1))).setCell ⟨g, i * 4 + 1, none⟩ (.bool (s0 == 2))).setCell ⟨g, i * 4 + 2, none⟩ (.int .u32 g0)).setCell ⟨g, i * 4 + 3, none⟩ (.int .i64 x)) := (((((Kept.refl _ w2).put1 _ _).put1 _ _).put1 _ _).put1 _ _)
  have b1 := ((((hg.put (i * 4) (.bool (s0 == 1))).put (i * 4 + 1) (.bool (s0 == 2))).put (i * 4 + 2) (.int .u32 g0)).put (i * 4 + 3) (.int .i64 x))
  have b2 := b1.kept ((Kept.refl (· = c) _).put1 2 (.slice (some ⟨g, 0, none⟩) n cap2)) (fun e => hcg e.symm)
  have c1 := (hc.kept k1 hcg).put 2 (.slice (some ⟨g, 0, none⟩) n cap2)
  refine ⟨hG, cap2, _, ?_, b2, by simp [h5], by rw [hn, hn0]; exact h3, h4, fun j hj' q hq => ?_⟩
  · rw [hr, hn, hn0]; exact c1
  · rw [hn, hn0] at hj'
    by_cases e : j = i
    · subst e
      rw [hd]
      have h0 : j * 4 < cur.size := by omega
      have h1 : j * 4 + 1 < cur.size := by omega
      have h2 : j * 4 + 2 < cur.size := by omega
      have h3 : j * 4 + 3 < cur.size := by omega
      match q, hq with
      | 0, _ => simp [h0, dcl]
      | 1, _ => simp [h1, dcl]
      | 2, _ => simp [h2, dcl]
      | 3, _ => simp [h3, dcl]
    · obtain ⟨e1, e2, e3⟩ := hj j e
      rw [e1, e2, e3, ← hcur j hj' q hq, Array.getElem?_setIfInBounds, if_neg (by omega), Array.getElem?_setIfInBounds, if_neg (by omega), Array.getElem?_setIfInBounds, if_neg (by omega), Array.getElem?_setIfInBounds, if_neg (by omega)]
def DSetP (c : Nat) (G : Po) (w w' : World) : Prop := ∃ d', w.heap.size ≤ d' ∧ DW w' c d' G ∧ Kept (· = c) w w'
set_option maxHeartbeats 2000000 in
set_option maxRecDepth 1000000 in
theorem dset_ok (c d i s g x : Nat) (F G : Po) (w : World) (h : DW w c d F) (hi : i < F.t.n) (hG : G.Ok) (hn : G.t.n = F.t.n) (hr : G.room = F.room) (hj : ∀ j, j ≠ i → G.t.s j = F.t.s j ∧ G.t.g j = F.t.g j ∧ G.bx j = F.bx j) (hd : dcl (G.t.s i) (G.t.g i) (G.bx i) = dcl s g x) :
    Calls Try.prog 32 #[.pointer (some ⟨c, 0, none⟩), .int .i64 i, .agg #[.bool (s == 1), .bool (s == 2), .int .u32 g, .int .i64 x]] w fun e w' => e = .returned (.tuple #[]) ∧ Hid (DSetP c G w w') := by
  obtain ⟨i0, hi0, hz0, hz1, hz2⟩ := info_parts info_id
  have hnb := h.ok.hi
  obtain ⟨n, hn0⟩ : ∃ n, F.t.n = n := ⟨_, rfl⟩
  have HN := Lib.hid hn0
  have hin : (i : Int) < n := by omega
  have hn64 : (n : Int) ≤ 64 := by omega
  have H1 := Lib.hid (h.below ((Below.refl _ w).alloc (Nat.le_refl _) (.cells #[.bool (s == 1), .bool (s == 2), .int .u32 g, .int .i64 x] 78)))
  have B1 := Lib.hid (Bk.new w 78 #[.bool (s == 1), .bool (s == 2), .int .u32 g, .int .i64 x])
  have K1 : Hid (Below w.heap.size w (w.alloc (.cells #[.bool (s == 1), .bool (s == 2), .int .u32 g, .int .i64 x] 78))) := (Below.refl _ w).alloc (Nat.le_refl _) _
  have S1 : Hid ((w.alloc (.cells #[.bool (s == 1), .bool (s == 2), .int .u32 g, .int .i64 x] 78)).heap.size = w.heap.size + 1) := by simp [Hid]
  have HCW : Hid (c < w.heap.size ∧ d < w.heap.size) := ⟨h.ct, h.dt⟩
  have FI : Hid (∀ (w2 : World) (g' cap2 : Nat) (v0 : Value) (cur : Array Value), Below w.heap.size w w2 → w.heap.size ≤ g' → Bk w2 c 76 #[.bool true, .int .i64 F.room, v0] → Bk w2 g' 78 cur → n ≤ cap2 → cap2 ≤ maxLen → cur.size = cap2 * 4 → (∀ j, j < n → ∀ q, q < 4 → cur[j * 4 + q]? = (dcl (F.t.s j) (F.t.g j) (F.bx j))[q]?) →
      DSetP c G w (((((w2.setCell ⟨g', i * 4, none⟩ (.bool (s == 1))).setCell ⟨g', i * 4 + 1, none⟩ (.bool (s == 2))).setCell ⟨g', i * 4 + 2, none⟩ (.int .u32 g)).setCell ⟨g', i * 4 + 3, none⟩ (.int .i64 x)).setCell ⟨c, 2, none⟩ (.slice (some ⟨g', 0, none⟩) n cap2))) := fun w2 g' cap2 v0 cur hb hg' b1 b2 h3 h4 h5 h6 => by
    have hct := h.ct
    refine ⟨g', hg', dset_fin b1 b2 (by omega) h3 h4 h5 hn0 h6 (by omega) hG hn hr hj hd, ?_⟩
    have k2 : Kept (fun k => k = c ∨ k = g') w2 (((((w2.setCell ⟨g', i * 4, none⟩ (.bool (s == 1))).setCell ⟨g', i * 4 + 1, none⟩ (.bool (s == 2))).setCell ⟨g', i * 4 + 2, none⟩ (.int .u32 g)).setCell ⟨g', i * 4 + 3, none⟩ (.int .i64 x)).setCell ⟨c, 2, none⟩ (.slice (some ⟨g', 0, none⟩) n cap2)) :=
      (((((Kept.refl _ w2).put (p := ⟨g', i * 4, none⟩) (.inr (.inr rfl)) _).put (p := ⟨g', i * 4 + 1, none⟩) (.inr (.inr rfl)) _).put (p := ⟨g', i * 4 + 2, none⟩) (.inr (.inr rfl)) _).put (p := ⟨g', i * 4 + 3, none⟩) (.inr (.inr rfl)) _).put (p := ⟨c, 2, none⟩) (.inr (.inl rfl)) _
    have k3 : Kept (fun k => k = c ∨ k = g') w _ := (Kept.of_below hb).trans k2
    exact k3.mono fun k hk e => by rcases e with e | e; exact e; omega
  clear h hG hn hr hj hd hn0 hnb hi
  go_enter Try.func32, Try.ntmps32
  go_upto_region 1 with fail
  generalize hw1 : w.alloc (.cells #[.bool (s == 1), .bool (s == 2), .int .u32 g, .int .i64 x] 78) = w1 at *
  clear hw1
  obtain ⟨A, hA⟩ : ∃ A, w.heap.size = A := ⟨_, rfl⟩
  have HA := Lib.hid hA
  rw [hA] at B1
  rw [hA]
  clear hA
  obtain ⟨cap, c0, c1, c2, hcap, hcm⟩ := H1.out.c0
  rw [HN.out] at c2 hcap
  have HO : Hid ((w1.alloc (.cells #[] 78)).ownsRow w1.heap.size 78 4 (.slice (some ⟨w1.heap.size, 0, none⟩) 0 0) 0 []) := World.ownsRow_lit w1 #[] 0 (Nat.le_refl _) (by decide) rfl
  have hbn : Below w1.heap.size w1 (w1.alloc (.cells #[] 78)) := (Below.refl _ w1).alloc (Nat.le_refl _) _
  have hc' := cell_keeps hbn c2
  have H2 := Lib.hid (H1.out.below hbn)
  have BN := Lib.hid hbn
  clear c0 c1 c2 hbn
  go_wp2_with (at_builtin; refine wpList_append_own _ rfl _ _ 74 rfl w1.heap.size 78 i0 _ 4 16 Try.underlying74 hi0 hz0 hz1 hz2 rfl (by decide) _ 0 [] rfl HO.out ⟨d, 0, none⟩ n cap (F.dcls n) rfl (dcls_len F _) ?c1 (dcls_one F _) ?c2 ?c3 ?c4 ?_)
  case c1 =>
    intro j u hj
    have hjl := (List.getElem?_eq_some_iff.1 hj).1
    rw [dcls_len] at hjl
    have e : (⟨d, 0, none⟩ : Addr).add j = ⟨d, j, none⟩ := by unfold Addr.add; split <;> simp_all
    obtain ⟨cap', cur, _, h2, _, _, _, h6⟩ := H2.out.at_
    have hp := dcls_at F n (j / 4) (by omega) (j % 4) (by omega)
    have hq := h6 (j / 4) (by rw [HN.out]; omega) (j % 4) (by omega)
    rw [show j / 4 * 4 + j % 4 = j by omega] at hp hq
    rw [e, h2.cell, hq, ← hp, hj]
  case c2 => unfold maxLen; omega
  case c3 => omega
  case c4 => simp
  intro v' w2 hown hgrow _
  have hown' : w2.ownsRow w1.heap.size 78 4 v' n (F.dcls n) := by simpa using hown
  have hB : Below w1.heap.size w1 w2 := BN.out.grown hgrow (by simp) (fun k hk => (HO.out.lt k hk).1)
  rcases hown'.2 with ⟨rfl, h0⟩ | ⟨g', cap2, cur, rfl, g1, g2, g3, g4, g5, g6⟩
  · omega
  have g7 : ∀ j, j < n → ∀ q, q < 4 → cur[j * 4 + q]? = (dcl (F.t.s j) (F.t.g j) (F.bx j))[q]? := fun j hj q hq => by
    have := dcls_at F n j hj q hq
    rw [← g6, List.getElem?_take_of_lt (by omega), Array.getElem?_toList] at this
    exact this
  have hg2 : Bk w2 g' 78 cur := g2
  obtain ⟨v0, hbc⟩ : ∃ v0, Bk w2 c 76 #[.bool true, .int .i64 F.room, v0] := by obtain ⟨_, _, h1, _⟩ := (H1.out.below hB).at_; exact ⟨_, h1⟩
  have hS := S1.out
  have hA2 := HA.out
  have hcl := HCW.out.1
  have FI2 := Lib.hid (FI.out w2 g' cap2 v0 cur (K1.out.trans (hB.mono (by omega))) (by omega) hbc hg2 g3 g4 g5 g7)
  have e0 : w2.cell? ⟨g', i * 4, none⟩ = some (.bool (F.t.s i == 1)) := (hg2.cell _).trans (g7 i (by omega) 0 (by omega))
  have e1 : w2.cell? ⟨g', i * 4 + 1, none⟩ = some (.bool (F.t.s i == 2)) := (hg2.cell _).trans (g7 i (by omega) 1 (by omega))
  have e2 : w2.cell? ⟨g', i * 4 + 2, none⟩ = some (.int .u32 (F.t.g i)) := (hg2.cell _).trans (g7 i (by omega) 2 (by omega))
  have e3 : w2.cell? ⟨g', i * 4 + 3, none⟩ = some (.int .i64 (F.bx i)) := (hg2.cell _).trans (g7 i (by omega) 3 (by omega))
  have f0 := hg2.frozen (i * 4)
  have f1 := hg2.frozen (i * 4 + 1)
  have f2 := hg2.frozen (i * 4 + 2)
  have f3 := hg2.frozen (i * 4 + 3)
  have fc := hbc.frozen 2
  have k2 : w2.cell? ⟨c, 2, none⟩ = some v0 := hbc.cell 2
  have hBA := B1.out.below hB
  have a0 : w2.cell? ⟨A, 0, none⟩ = some (.bool (s == 1)) := hBA.cell 0
  have a1 : w2.cell? ⟨A, 1, none⟩ = some (.bool (s == 2)) := hBA.cell 1
  have a2 : w2.cell? ⟨A, 2, none⟩ = some (.int .u32 g) := hBA.cell 2
  have a3 : w2.cell? ⟨A, 3, none⟩ = some (.int .i64 x) := hBA.cell 3
  have hgl := hg2.lt
  have hcw := hbc.lt
  have hne : c ≠ g' := by omega
  have hne2 : g' ≠ c := fun e => hne e.symm
  have hcap2 : cap2 ≤ 9223372036854775807 := by unfold maxLen at g4; omega
  clear hown hown' hgrow hB g1 g2 g4 g5 g6 g7 hg2 hbc hBA hS hA2 hcl hc' hne hcap hcm
  go_wp2
  go_end0
  exact ⟨rfl, FI2.out⟩
end Go.Proofs.Ytjhgckaaaonbiaa
