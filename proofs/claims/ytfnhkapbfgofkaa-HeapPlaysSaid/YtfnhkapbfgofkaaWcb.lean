/- The contract of the document's set: a slot gets other cells, in a new block. -/
import Derived.Test.YtfnhkapbfgofkaaWca
import Derived.Test.YtfnhkapbfgofkaaNd
import Derived.Maps.AppendAt
import Derived.Laws.OwnMore
import Derived.Deep.Cut
import Derived.Deep.CutRange
namespace Go.Proofs.Ytfnhkapbfgofkaa
open Go.RowKit

theorem info_sl : (Try.prog.info? 88).map (fun i => (i.zero, i.size, i.bytes)) = some (some (.agg #[.bool false, .bool false, .int .u32 0, .int .i64 0, .int .i64 0, .int .u32 0, .int .i64 0, .int .u32 0, .int .i64 0, .int .u32 0, .int .i64 0, .int .u32 0, .bool false]), 13, 88) := by kernel_rfl
theorem ecl_one (s g : Nat) (o : Ob) : ∀ u ∈ ecl s g o, u.oneCell' = true := by
  intro u hu
  simp only [ecl, List.mem_cons, List.not_mem_nil, or_false] at hu
  rcases hu with rfl | rfl | rfl | rfl | rfl | rfl | rfl | rfl | rfl | rfl | rfl | rfl | rfl <;> rfl
theorem ecls_one (H : Hp) (k : Nat) : ∀ u ∈ H.ecls k, u.oneCell' = true := by
  intro u hu
  obtain ⟨i, _, h⟩ := List.mem_flatMap.1 hu
  exact ecl_one _ _ _ u h
theorem own_sl {w : World} {base n : Nat} {v : Value} {xs : List Value} (h : w.ownsRow base 88 13 v n xs) : ∃ p c, v = .slice p n c := by
  rcases h.2 with ⟨rfl, h0⟩ | ⟨g', cap, cur, rfl, _⟩
  · exact ⟨_, _, by rw [h0]⟩
  · exact ⟨_, _, rfl⟩
theorem ecl_o (s g : Nat) (o : Ob) {k : Nat} (hk : k < 10) : (ecl s g o)[3 + k]? = (obc o)[k]? := by
  match k, hk with
  | 0, _ => rfl
  | 1, _ => rfl
  | 2, _ => rfl
  | 3, _ => rfl
  | 4, _ => rfl
  | 5, _ => rfl
  | 6, _ => rfl
  | 7, _ => rfl
  | 8, _ => rfl
  | 9, _ => rfl
/-- Thirteen cells from q on. -/
def set13 (cs : Array Value) (q s g : Nat) (o : Ob) : Array Value := set10 (((cs.setIfInBounds q (.bool (s == 1))).setIfInBounds (q + 1) (.bool (s == 2))).setIfInBounds (q + 2) (.int .u32 g)) (q + 3) o
def put13 (w : World) (b q s g : Nat) (o : Ob) : World := put10 (((w.setCell ⟨b, q, none⟩ (.bool (s == 1))).setCell ⟨b, q + 1, none⟩ (.bool (s == 2))).setCell ⟨b, q + 2, none⟩ (.int .u32 g)) b (q + 3) o
theorem Bk.put13 {w : World} {b : Nat} {t : TypeId} {cs : Array Value} (h : Bk w b t cs) (q s g : Nat) (o : Ob) : Bk (put13 w b q s g o) b t (set13 cs q s g o) := (((h.put _ _).put _ _).put _ _).put10 _ _
theorem kept_put13 {S : Nat → Prop} {a w : World} (h : Kept S a w) {b : Nat} (hb : a.heap.size ≤ b ∨ S b) (q s g : Nat) (o : Ob) : Kept S a (put13 w b q s g o) :=
  kept_put10 (((h.put (p := ⟨b, q, none⟩) hb _).put (p := ⟨b, q + 1, none⟩) hb _).put (p := ⟨b, q + 2, none⟩) hb _) hb _ o
theorem set13_size (cs : Array Value) (q s g : Nat) (o : Ob) : (set13 cs q s g o).size = cs.size := by unfold set13; rw [set10_size]; simp
theorem set13_in {cs : Array Value} {q : Nat} (s g : Nat) (o : Ob) (h : q + 13 ≤ cs.size) {k : Nat} (hk : k < 13) : (set13 cs q s g o)[q + k]? = (ecl s g o)[k]? := by
  unfold set13
  by_cases c : k < 3
  · rw [set10_out o (.inl (by omega))]
    have g0 : q < cs.size := by omega
    have g1 : q + 1 < cs.size := by omega
    have g2 : q + 2 < cs.size := by omega
    match k, c with
    | 0, _ => simp [ecl, g0]
    | 1, _ => simp [ecl, g1]
    | 2, _ => simp [ecl, g2]
  · obtain ⟨j, rfl⟩ : ∃ j, k = 3 + j := ⟨k - 3, by omega⟩
    rw [ecl_o s g o (by omega), show q + (3 + j) = q + 3 + j by omega]
    exact set10_in o (by simp; omega) (by omega)
theorem set13_out {cs : Array Value} {q : Nat} (s g : Nat) (o : Ob) {j : Nat} (h : j < q ∨ q + 13 ≤ j) : (set13 cs q s g o)[j]? = cs[j]? := by
  unfold set13
  rw [set10_out o (by omega)]
  rw [Array.getElem?_setIfInBounds, if_neg (by omega), Array.getElem?_setIfInBounds, if_neg (by omega), Array.getElem?_setIfInBounds, if_neg (by omega)]
/-- H with another slot i: G. -/
structure Turned (H G : Hp) (i s g : Nat) (o : Ob) : Prop where
  ok : G.Ok
  n : G.t.n = H.t.n
  out : ∀ j, j ≠ i → G.t.s j = H.t.s j ∧ G.t.g j = H.t.g j ∧ G.ox j = H.ox j
  at_ : ecl (G.t.s i) (G.t.g i) (G.ox i) = ecl s g o
theorem dh_fin {w2 : World} {c g' i n cap2 s g : Nat} {o : Ob} {H G : Hp} {v0 : Value} {cur : Array Value} (hc : Bk w2 c 85 #[.bool true, v0]) (hg : Bk w2 g' 88 cur) (hcg : c ≠ g') (h3 : n ≤ cap2) (h4 : cap2 ≤ maxLen) (h5 : cur.size = cap2 * 13) (hn0 : H.t.n = n)
    (hcur : ∀ j, j < n → ∀ q, q < 13 → cur[j * 13 + q]? = (ecl (H.t.s j) (H.t.g j) (H.ox j))[q]?) (hi : i < n) (T : Turned H G i s g o) :
    EW ((put13 w2 g' (i * 13) s g o).setCell ⟨c, 1, none⟩ (.slice (some ⟨g', 0, none⟩) n cap2)) c g' G := by
  have k1 : Kept (· = g') w2 (put13 w2 g' (i * 13) s g o) := kept_put13 (S := (· = g')) (Kept.refl _ w2) (.inr rfl) _ _ _ _
  have b1 := hg.put13 (i * 13) s g o
  have b2 := b1.kept ((Kept.refl (· = c) _).put1 1 (.slice (some ⟨g', 0, none⟩) n cap2)) (fun e => hcg e.symm)
  have c1 := (hc.kept k1 hcg).put 1 (.slice (some ⟨g', 0, none⟩) n cap2)
  refine ⟨T.ok, cap2, _, ?_, b2, by rw [set13_size]; exact h5, by rw [T.n, hn0]; exact h3, h4, fun j hj' q hq => ?_⟩
  · rw [T.n, hn0]; exact c1
  · rw [T.n, hn0] at hj'
    by_cases e : j = i
    · subst e
      rw [T.at_]
      exact set13_in s g o (by omega) hq
    · obtain ⟨e1, e2, e3⟩ := T.out j e
      rw [e1, e2, e3, ← hcur j hj' q hq]
      exact set13_out s g o (by omega)
def ESet (c : Nat) (G : Hp) (w w' : World) : Prop := ∃ d', w.heap.size ≤ d' ∧ EW w' c d' G ∧ Kept (· = c) w w'
set_option maxHeartbeats 4000000 in
set_option maxRecDepth 1000000 in
theorem dh_set (c d i s g : Nat) (o : Ob) (H G : Hp) (w : World) (h : EW w c d H) (hi : i < H.t.n) (T : Turned H G i s g o) :
    Calls Try.prog 40 #[.pointer (some ⟨c, 0, none⟩), .int .i64 i, .agg #[.bool (s == 1), .bool (s == 2), .int .u32 g, .int .i64 o.n, .int .i64 o.a.1, .int .u32 o.a.2, .int .i64 o.b.1, .int .u32 o.b.2, .int .i64 o.c.1, .int .u32 o.c.2, .int .i64 o.d.1, .int .u32 o.d.2, .bool o.h]] w fun e w' => e = .returned (.tuple #[]) ∧ Hid (ESet c G w w') := by
  obtain ⟨i0, hi0, hz0, hz1, hz2⟩ := info_parts info_sl
  have hnb := h.ok.t.hi
  obtain ⟨n, hn0⟩ : ∃ n, H.t.n = n := ⟨_, rfl⟩
  have HN := Lib.hid hn0
  have hin : (i : Int) < n := by omega
  have hn64 : (n : Int) ≤ 256 := by omega
  obtain ⟨w1, hw1⟩ : ∃ w1, w.alloc (.cells #[.bool (s == 1), .bool (s == 2), .int .u32 g, .int .i64 o.n, .int .i64 o.a.1, .int .u32 o.a.2, .int .i64 o.b.1, .int .u32 o.b.2, .int .i64 o.c.1, .int .u32 o.c.2, .int .i64 o.d.1, .int .u32 o.d.2, .bool o.h] 88) = w1 := ⟨_, rfl⟩
  have K1 : Hid (Below w.heap.size w w1) := by rw [← hw1]; exact bel_new _ _
  have H1 : Hid (EW w1 c d H) := h.below K1.out
  have B1 : Hid (Bk w1 w.heap.size 88 (ecl s g o).toArray) := by rw [← hw1]; exact Bk.new _ _ _
  have S1 : Hid (w1.heap.size = w.heap.size + 1) := by rw [← hw1]; simp [Hid]
  have HCW : Hid (c < w.heap.size ∧ d < w.heap.size) := ⟨h.ct, h.dt⟩
  have HW := Lib.hid hw1
  have FI : Hid (∀ (w2 : World) (g' cap2 : Nat) (v0 : Value) (cur : Array Value), Below w.heap.size w w2 → w.heap.size ≤ g' → Bk w2 c 85 #[.bool true, v0] → Bk w2 g' 88 cur → n ≤ cap2 → cap2 ≤ maxLen → cur.size = cap2 * 13 → (∀ j, j < n → ∀ q, q < 13 → cur[j * 13 + q]? = (ecl (H.t.s j) (H.t.g j) (H.ox j))[q]?) →
      ESet c G w ((put13 w2 g' (i * 13) s g o).setCell ⟨c, 1, none⟩ (.slice (some ⟨g', 0, none⟩) n cap2))) := fun w2 g' cap2 v0 cur hb hg' b1 b2 h3 h4 h5 h6 => by
    have hct := h.ct
    refine ⟨g', hg', dh_fin b1 b2 (by omega) h3 h4 h5 hn0 h6 (by omega) T, ?_⟩
    have k2 : Kept (fun k => k = c ∨ k = g') w2 ((put13 w2 g' (i * 13) s g o).setCell ⟨c, 1, none⟩ (.slice (some ⟨g', 0, none⟩) n cap2)) :=
      (kept_put13 (Kept.refl _ w2) (.inr (.inr rfl)) _ _ _ _).put (p := ⟨c, 1, none⟩) (.inr (.inl rfl)) _
    have k3 : Kept (fun k => k = c ∨ k = g') w _ := (Kept.of_below hb).trans k2
    exact k3.mono fun k hk e => by rcases e with e | e; exact e; omega
  clear h T hn0 hnb hi hw1
  go_enter Try.func40, Try.ntmps40
  go_upto_region 1 with fail
  rw [HW.out]
  obtain ⟨A, hA⟩ : ∃ A, w.heap.size = A := ⟨_, rfl⟩
  have HA := Lib.hid hA
  rw [hA] at B1
  rw [hA]
  clear hA HW
  obtain ⟨cap, c0, c1, hcap, hcm⟩ := H1.out.c0
  rw [HN.out] at c1 hcap
  have HO : Hid ((w1.alloc (.cells #[] 88)).ownsRow w1.heap.size 88 13 (.slice (some ⟨w1.heap.size, 0, none⟩) 0 0) 0 []) := World.ownsRow_lit w1 #[] 0 (Nat.le_refl _) (by decide) rfl
  have hbn : Below w1.heap.size w1 (w1.alloc (.cells #[] 88)) := (Below.refl _ w1).alloc (Nat.le_refl _) _
  have hc' := cell_stays hbn c1
  have H2 := Lib.hid (H1.out.below hbn)
  have BN := Lib.hid hbn
  clear c0 c1 hbn
  go_wp2_with (at_builtin; refine wpList_append_own _ rfl _ _ 83 rfl w1.heap.size 88 i0 _ 13 88 Try.underlying83 hi0 hz0 hz1 hz2 rfl (by decide) _ 0 [] rfl HO.out ⟨d, 0, none⟩ n cap (H.ecls n) rfl (ecls_len H _) ?c1 (ecls_one H _) ?c2 ?c3 ?c4 ?_)
  case c1 =>
    intro j u hj
    have hjl := (List.getElem?_eq_some_iff.1 hj).1
    rw [ecls_len] at hjl
    have e : (⟨d, 0, none⟩ : Addr).add j = ⟨d, j, none⟩ := by unfold Addr.add; split <;> simp_all
    obtain ⟨cap', cur, _, h2, _, _, _, h6⟩ := H2.out.at_
    have hp := ecls_at H n (j / 13) (by omega) (j % 13) (by omega)
    have hq := h6 (j / 13) (by rw [HN.out]; omega) (j % 13) (by omega)
    rw [show j / 13 * 13 + j % 13 = j by omega] at hp hq
    rw [e, h2.cell, hq, ← hp, hj]
  case c2 => unfold maxLen; omega
  case c3 => omega
  case c4 => simp
  intro v' w2 hown hgrow _
  have hown' : w2.ownsRow w1.heap.size 88 13 v' n (H.ecls n) := by simpa using hown
  have hB : Below w1.heap.size w1 w2 := BN.out.grown hgrow (by simp) (fun k hk => (HO.out.lt k hk).1)
  rcases hown'.2 with ⟨rfl, h0⟩ | ⟨g', cap2, cur, rfl, g1, g2, g3, g4, g5, g6⟩
  · omega
  have g7 : ∀ j, j < n → ∀ q, q < 13 → cur[j * 13 + q]? = (ecl (H.t.s j) (H.t.g j) (H.ox j))[q]? := fun j hj q hq => by
    have := ecls_at H n j hj q hq
    rw [← g6, List.getElem?_take_of_lt (by omega), Array.getElem?_toList] at this
    exact this
  have hg2 : Bk w2 g' 88 cur := g2
  obtain ⟨v0, hbc⟩ : ∃ v0, Bk w2 c 85 #[.bool true, v0] := by obtain ⟨_, _, h1, _⟩ := (H1.out.below hB).at_; exact ⟨_, h1⟩
  have hS := S1.out
  have hA2 := HA.out
  have hcl := HCW.out.1
  have FI2 := Lib.hid (FI.out w2 g' cap2 v0 cur (K1.out.trans (hB.mono (by omega))) (by omega) hbc hg2 g3 g4 g5 g7)
  have hci : ∀ q, q < 13 → ∃ v, w2.cell? ⟨g', i * 13 + q, none⟩ = some v := fun q hq => by
    have e1 : w2.cell? ⟨g', i * 13 + q, none⟩ = cur[i * 13 + q]? := hg2.cell _
    rw [e1, Array.getElem?_eq_getElem (by rw [g5]; omega)]
    exact ⟨_, rfl⟩
  obtain ⟨x0, e0⟩ : ∃ v, w2.cell? ⟨g', i * 13, none⟩ = some v := hci 0 (by decide)
  obtain ⟨x1, e1⟩ : ∃ v, w2.cell? ⟨g', i * 13 + 1, none⟩ = some v := hci 1 (by decide)
  obtain ⟨x2, e2⟩ : ∃ v, w2.cell? ⟨g', i * 13 + 2, none⟩ = some v := hci 2 (by decide)
  obtain ⟨x3, e3⟩ : ∃ v, w2.cell? ⟨g', i * 13 + 3, none⟩ = some v := hci 3 (by decide)
  obtain ⟨x4, e4⟩ : ∃ v, w2.cell? ⟨g', i * 13 + 4, none⟩ = some v := hci 4 (by decide)
  obtain ⟨x5, e5⟩ : ∃ v, w2.cell? ⟨g', i * 13 + 5, none⟩ = some v := hci 5 (by decide)
  obtain ⟨x6, e6⟩ : ∃ v, w2.cell? ⟨g', i * 13 + 6, none⟩ = some v := hci 6 (by decide)
  obtain ⟨x7, e7⟩ : ∃ v, w2.cell? ⟨g', i * 13 + 7, none⟩ = some v := hci 7 (by decide)
  obtain ⟨x8, e8⟩ : ∃ v, w2.cell? ⟨g', i * 13 + 8, none⟩ = some v := hci 8 (by decide)
  obtain ⟨x9, e9⟩ : ∃ v, w2.cell? ⟨g', i * 13 + 9, none⟩ = some v := hci 9 (by decide)
  obtain ⟨x10, e10⟩ : ∃ v, w2.cell? ⟨g', i * 13 + 10, none⟩ = some v := hci 10 (by decide)
  obtain ⟨x11, e11⟩ : ∃ v, w2.cell? ⟨g', i * 13 + 11, none⟩ = some v := hci 11 (by decide)
  obtain ⟨x12, e12⟩ : ∃ v, w2.cell? ⟨g', i * 13 + 12, none⟩ = some v := hci 12 (by decide)
  have hfz := fun q => hg2.frozen (i * 13 + q)
  have f0 : w2.frozen? ⟨g', i * 13, none⟩ = false := hfz 0
  have f1 := hfz 1
  have f2 := hfz 2
  have f3 := hfz 3
  have f4 := hfz 4
  have f5 := hfz 5
  have f6 := hfz 6
  have f7 := hfz 7
  have f8 := hfz 8
  have f9 := hfz 9
  have f10 := hfz 10
  have f11 := hfz 11
  have f12 := hfz 12
  have fc := hbc.frozen 1
  have k2 : w2.cell? ⟨c, 1, none⟩ = some v0 := hbc.cell 1
  have hBA := B1.out.below hB
  have a0 : w2.cell? ⟨A, 0, none⟩ = some (.bool (s == 1)) := hBA.cell 0
  have a1 : w2.cell? ⟨A, 1, none⟩ = some (.bool (s == 2)) := hBA.cell 1
  have a2 : w2.cell? ⟨A, 2, none⟩ = some (.int .u32 g) := hBA.cell 2
  have a3 : w2.cell? ⟨A, 3, none⟩ = some (.int .i64 o.n) := hBA.cell 3
  have a4 : w2.cell? ⟨A, 4, none⟩ = some (.int .i64 o.a.1) := hBA.cell 4
  have a5 : w2.cell? ⟨A, 5, none⟩ = some (.int .u32 o.a.2) := hBA.cell 5
  have a6 : w2.cell? ⟨A, 6, none⟩ = some (.int .i64 o.b.1) := hBA.cell 6
  have a7 : w2.cell? ⟨A, 7, none⟩ = some (.int .u32 o.b.2) := hBA.cell 7
  have a8 : w2.cell? ⟨A, 8, none⟩ = some (.int .i64 o.c.1) := hBA.cell 8
  have a9 : w2.cell? ⟨A, 9, none⟩ = some (.int .u32 o.c.2) := hBA.cell 9
  have a10 : w2.cell? ⟨A, 10, none⟩ = some (.int .i64 o.d.1) := hBA.cell 10
  have a11 : w2.cell? ⟨A, 11, none⟩ = some (.int .u32 o.d.2) := hBA.cell 11
  have a12 : w2.cell? ⟨A, 12, none⟩ = some (.bool o.h) := hBA.cell 12
  have hgl := hg2.lt
  have hcw := hbc.lt
  have hne : c ≠ g' := by omega
  have hne2 : g' ≠ c := fun e => hne e.symm
  have hcap2 : cap2 ≤ 9223372036854775807 := by unfold maxLen at g4; omega
  clear hown hown' hgrow hB g1 g2 g4 g5 g6 g7 hg2 hbc hBA hS hA2 hcl hc' hne hcap hcm hfz hci
  go_wp2
  go_end0
  exact ⟨rfl, FI2.out⟩
end Go.Proofs.Ytfnhkapbfgofkaa
