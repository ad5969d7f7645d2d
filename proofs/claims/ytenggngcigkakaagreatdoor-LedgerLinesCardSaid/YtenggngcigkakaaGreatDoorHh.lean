/- The contracts of the program's Of. -/
import Derived.Test.YtenggngcigkakaaGreatDoorHf
namespace Go.Proofs.YtenggngcigkakaaGreatDoor
open Go.RowKit Go.Shelf Go.ChangeShapes
attribute [local go_sem] Oper.semAt_some

theorem appended2 {W w1 : World} {n₀ n₁ B : Nat} {t e : TypeId} {size : Nat} {v v' : Value} {k m : Nat} {xs ys : List Value} {tmp : Obj}
    (hv : Boxed W B t v) (hte : t ≠ e) (hrow : W.ownsRow n₁ e size v k xs) (hn₁ : n₁ ≤ W.heap.size) (hB : n₀ ≤ B) (h01 : n₀ ≤ n₁)
    (hown' : w1.ownsRow n₁ e size v' m ys) (hgrow : (W.alloc tmp).grownBy w1 v.ownBlock) :
    Boxed w1 B t v ∧ Boxed (w1.setCell ⟨B, 0, none⟩ v') B t v' ∧ (w1.setCell ⟨B, 0, none⟩ v').ownsRow n₁ e size v' m ys ∧ KeepsOthers W (w1.setCell ⟨B, 0, none⟩ v') ∧ Below n₀ W (w1.setCell ⟨B, 0, none⟩ v') ∧ KpS (· = B) n₁ W (w1.setCell ⟨B, 0, none⟩ v') := by
  have hv1 : Boxed w1 B t v := (hv.alloc tmp).kept hgrow (hv.not_row hte hrow)
  have hge : ∀ j, v.ownBlock = some j → n₁ ≤ j := fun j ej => (hrow.lt j ej).1
  refine ⟨hv1, hv1.set v', hown'.kept (grownBy_setCell' w1 B v') (.inr (hv1.not_row hte hown').symm), ?_, ?_, ?_⟩
  · refine ((KeepsOthers.alloc W tmp).trans (KeepsOthers.of_grownBy hgrow fun j o ej hj => ?_)).trans (KeepsOthers.setCell _ _ _)
    rcases (hrow.alloc tmp).2 with ⟨rfl, _⟩ | ⟨g, cap, cur, rfl, _, hgb, _⟩
    · simp [Value.ownBlock] at ej
    · obtain rfl : g = j := by simpa [Value.ownBlock] using ej
      rw [hgb] at hj; cases hj; rfl
  · exact (((Below.refl n₀ W).alloc (by omega) tmp).grown hgrow (by simp; omega) fun j ej => by have := hge j ej; omega).setCell (p := ⟨B, 0, none⟩) hB v'
  · intro j hj hx
    rw [Below.heap_setCell _ _ _ _ hx, hgrow.block j (by simp; omega) (fun e => by have := hge j e.symm; omega)]
    exact Below.heap_alloc _ _ _ (by omega)

theorem ownsRow_lower {w : World} {a b : Nat} {e : TypeId} {s : Nat} {v : Value} {n : Nat} {xs : List Value} (h : w.ownsRow a e s v n xs) (hb : b ≤ a) : w.ownsRow b e s v n xs := by
  refine ⟨h.1, ?_⟩
  rcases h.2 with h | ⟨g, cap, cur, h1, h2, h3⟩
  · exact .inl h
  · exact .inr ⟨g, cap, cur, h1, by omega, h3⟩


theorem Bk.grown {w w' : World} {g : Nat} {t : TypeId} {cs : Array Value} {row : Option Nat} (h : Bk w g t cs) (hg : w.grownBy w' row) (hr : ∀ r, row = some r → ∃ o, w.heap[r]? = some o ∧ o.isCells = false) : Bk w' g t cs := by
  refine (hg.block g h.lt fun e => ?_).trans h
  obtain ⟨o, ho, hc⟩ := hr g e.symm
  rw [show w.heap[g]? = _ from h] at ho
  cases ho
  cases hc
/-- What the two boxes hold that of has laid. -/
theorem boxes (w : World) (p : Option Addr) (k i g : Int) {w2 : World} (h : (w.alloc (.cells #[.pointer p] 27)).alloc (.cells #[.int .i64 k, .int .i64 i, .int .u32 g] 25) = w2) :
    Bk w2 w.heap.size 27 #[.pointer p] ∧ Bk w2 (w.heap.size + 1) 25 #[.int .i64 k, .int .i64 i, .int .u32 g] ∧ w2.heap.size = w.heap.size + 2 ∧ Below w.heap.size w w2 := by
  subst h
  have b1 := (Bk.new w 27 #[.pointer p]).up (.cells #[.int .i64 k, .int .i64 i, .int .u32 g] 25)
  have b2 := Bk.new (w.alloc (.cells #[.pointer p] 27)) 25 #[.int .i64 k, .int .i64 i, .int .u32 g]
  rw [World.size_alloc] at b2
  exact ⟨b1, b2, by simp, (bel_new w _).alloc (by simp) _⟩

set_option maxRecDepth 100000 in
set_option maxHeartbeats 4000000 in
theorem of_of (p : Option Addr) (k i g : Int) (L : List Att) (Sp : List Att → Prop) (N : Nat) (hN : N ≤ 10000) (w : World)
    (hseq : ∀ w2, w2.heap.size = w.heap.size + 4 → Below w.heap.size w w2 → Bk w2 (w.heap.size + 2) 27 #[.pointer p] → Bk w2 (w.heap.size + 3) 25 #[.int .i64 k, .int .i64 i, .int .u32 g] →
      SeqStopsK Fence.wide 2 Tryz.prog 81 #[.pointer (some ⟨w.heap.size + 2, 0, none⟩), .pointer (some ⟨w.heap.size + 3, 0, none⟩)] (fun x : Att => #[x.val]) (KpS (· = w.heap.size + 1) (w.heap.size + 4)) (fun ys => ys = L) Sp N w2) :
    Calls Tryz.prog 27 #[.pointer p, okey k i g] w (NewA L w) := by
  obtain ⟨j0, hj, hy0, hy1, hy2⟩ := info_parts info_att
  have HSEQ := Lib.hid hseq
  clear hseq
  unfold okey
  refine (callsIn_wide (n := 3)).1 ?_
  refine callsIn_of_wp_marks Tryz.func27 rfl trivial ?_ rfl
  simp only [Tryz.ntmps27, List.size_toArray, List.length_cons, List.length_nil, Nat.reduceAdd, Nat.reduceSub, Array.replicate_succ, Array.replicate_zero, List.push_toArray, List.append_toArray, List.nil_append, List.cons_append]
  gi_wp2_with (refine ⟨trivial, ?_⟩; gi_at_call 59; refine (callsIn_wide.2 (of_ok _ k i g _)).mono ?_; rintro e w' ⟨rfl, rfl⟩)
  have bX := bel_new w (.cells #[.int .i64 k, .int .i64 i, .int .u32 g] 25)
  have bO := Boxed.new (w.alloc (.cells #[.int .i64 k, .int .i64 i, .int .u32 g] 25)) 22 (.slice none 0 0)
  rw [World.size_alloc] at bO
  obtain ⟨w2, hw2⟩ : ∃ w2, (((w.alloc (.cells #[.int .i64 k, .int .i64 i, .int .u32 g] 25)).alloc (.cells #[.slice none 0 0] 22)).alloc (.cells #[.pointer p] 27)).alloc (.cells #[.int .i64 k, .int .i64 i, .int .u32 g] 25) = w2 := ⟨_, rfl⟩
  obtain ⟨hx1, hx2, hx3, hx4⟩ := boxes ((w.alloc (.cells #[.int .i64 k, .int .i64 i, .int .u32 g] 25)).alloc (.cells #[.slice none 0 0] 22)) _ _ _ _ hw2
  rw [World.size_alloc, World.size_alloc] at hx1 hx2 hx3 hx4
  have hsz : w2.heap.size = w.heap.size + 4 := hx3
  have hB0 : Below w.heap.size w w2 := (bX.alloc (by simp) _).trans (hx4.mono (by omega))
  have bO2 : Boxed w2 (w.heap.size + 1) 22 (.slice none 0 0) := by rw [← hw2]; exact (bO.alloc _).alloc _
  rw [hw2]
  refine wpIn_rangeFunc_ownH rfl (by decide) (gf := 81) (lb := #[.pointer (some ⟨w.heap.size + 2, 0, none⟩), .pointer (some ⟨w.heap.size + 3, 0, none⟩)]) rfl trivial (enters_of Tryz.func81 (by kernel_rfl) rfl)
    (HSEQ.out w2 hsz hB0 hx1 hx2) KpS.trans (kpS_b (by omega)) (Below.refl _ _) (fun _ => rfl)
    (fun pre W => ((∃ v, Boxed W (w.heap.size + 1) 22 v ∧ W.ownsRow (w.heap.size + 4) 32 6 v pre.length (cls pre) ∧ True) ∧ w.heap.size + 4 ≤ W.heap.size) ∧ Below w.heap.size w W)
    (fun _ _ _ => False)
    (OwnFrom.and (OwnFrom.and (Own.from (holdsRow_own (w.heap.size + 4) (w.heap.size + 1) 22 32 6 (fun pre => pre.length) (fun pre => cls pre) (fun _ _ => True)) _) (fun _ _ _ _ hs hg _ => Nat.le_trans hs hg.size)) (ownFrom_below (Nat.le_refl _) (by omega)))
    (fun _ _ _ _ _ hs _ _ => hs)
    ⟨⟨⟨_, bO2, World.ownsRow_nil _ _ _ _, trivial⟩, by omega⟩, hB0⟩
    (fun x a' W => ∃ B4, w.heap.size + 4 ≤ B4 ∧ Bk W B4 32 #[.int .i64 x.t, .int .i64 x.k, .int .i64 x.i, .int .u32 x.g, .int .i64 x.y, .int .i64 x.n] ∧ a' = { tmps := #[.pointer p, .agg #[.int .i64 k, .int .i64 i, .int .u32 g], undef, .pointer (some ⟨w.heap.size, 0, none⟩), .slice none 0 0, .pointer (some ⟨w.heap.size + 1, 0, none⟩), .pointer (some ⟨B4, 0, none⟩), .pointer p, .agg #[.int .i64 k, .int .i64 i, .int .u32 g], .func (.func 81) #[] #[.pointer (some ⟨w.heap.size + 2, 0, none⟩), .pointer (some ⟨w.heap.size + 3, 0, none⟩)], x.val, undef, undef, undef, undef, undef], defers := [] })
    (fun x a' => fun s W W' row hs hg hr => by
      obtain ⟨B4, h1, h2, h3⟩ := hs
      exact ⟨B4, h1, h2.grown hg (fun r e => (hr r e).2), h3⟩) ?assign ?body ?done ?stop
  case assign =>
    rintro l pre x W K ⟨⟨⟨v, k1, k2, _⟩, k4⟩, hBW⟩ hK
    have HK := Lib.hid hK
    clear hK
    unfold Att.val
    gi_wp2
    have hal : Below W.heap.size W (W.alloc (.cells #[.int .i64 x.t, .int .i64 x.k, .int .i64 x.i, .int .u32 x.g, .int .i64 x.y, .int .i64 x.n] 32)) := bel_new _ _
    exact HK.out _ _ ((KeepsOthers.alloc W _).from _) (KpS.of_below hal k4) ⟨⟨⟨v, k1.alloc _, k2.alloc _, trivial⟩, Nat.le_trans k4 hal.size⟩, bel2 hBW hal⟩ ⟨W.heap.size, k4, Bk.new W _ _, rfl⟩
  case body =>
    rintro l pre x a' W _ _ ⟨⟨⟨v, hv, hrow, _⟩, hsW⟩, hB⟩ ⟨B4, hB4, hbk, rfl⟩ hlt2
    have hc := hv.cell
    obtain ⟨c0, c1, c2, c3, c4, c5⟩ := six_of (o := 0) (a := x) hbk (fun j u hj => by simpa [Att.cl] using hj)
    simp only [Nat.zero_add] at c0 c1 c2 c3 c4 c5
    gi_wp2_with (gi_at_builtin; refine wpListIn_append_own _ rfl _ _ 22 rfl (w.heap.size + 4) 32 j0 _ 6 48 Tryz.underlying22 hj hy0 hy1 hy2 rfl (by decide) _ _ _ rfl (hrow.alloc _) ⟨W.heap.size, 0, none⟩ 1 1 x.cl rfl rfl (news_new W x) (cl_one x) (by unfold maxLen; omega) (by omega) (by simp; omega) ?_; intro v' w3 hown' hgrow _; obtain ⟨g', cap', rfl⟩ := ownsRow_succ hown'; obtain ⟨hv1, hv2, hr2, hk2, hb2, hkp⟩ := appended2 (n₀ := w.heap.size) hv (by decide) hrow hsW (by omega) (by omega) hown' hgrow; have hc1 := hv1.cell; have hf1 := hv1.frozen)
    exact ⟨hk2.from _, hkp, ⟨⟨_, hv2, by rw [List.length_append, cls_snoc]; exact hr2, trivial⟩, Nat.le_trans hsW hb2.size⟩, hB.trans hb2⟩
  case done =>
    rintro D ys W hD rfl ⟨⟨⟨v, hv, hrow, _⟩, _⟩, hB⟩ hK
    have hc := hv.cell
    gi_wp2
    refine ⟨by simp, .inl ⟨_, _, rfl, run_takeDeferred hK, ?_⟩⟩
    exact ⟨_, results_tmp rfl _ _ _, v, rfl, ownsRow_lower (ownsRow_putObj hrow _ hK rfl) (by omega), hB.trans (belowK_b (w := w) (Nat.le_refl _) W D _ _ (by omega) hK rfl rfl)⟩
  case stop =>
    rintro D c pre W _ _ h _
    exact h.elim
theorem ofs_ok (b bk lo : Nat) (l : List Att) (k i g : Int) (hr : RgO k i g) (w : World) (h : LedW w b bk lo l) : Calls Tryz.prog 27 #[.pointer (some ⟨b, 0, none⟩), okey k i g] w (NewA (ofL l k i g) w) := by
  have hlb := h.hb.lt
  have hlf := fun q hq => (h.foot_le (g := q) hq).2
  refine of_of _ k i g (ofL l k i g) (fun pre => pre <+: ofL l k i g) (ofL l k i g).length (Nat.le_trans (ofL_le _ _ _ _) h.len) w fun w2 hsz hB0 hx1 hx2 => ?_
  obtain ⟨h1, h2⟩ := h.below hB0
  exact of_stops 2 (by decide) (w.heap.size + 2) (w.heap.size + 3) (w.heap.size + 4) b bk lo l k i g hr _ w2 ⟨hx1, hx2, h1, by omega, by omega, by omega, fun q hq => by have := hlf q ((h2 q).1 hq); exact ⟨by omega, by omega⟩, by omega, by omega, by omega⟩ (by omega)
theorem ofs_no (p : Option Addr) (k i g : Int) (w : World) (h : Inv w p) : Calls Tryz.prog 27 #[.pointer p, okey k i g] w fun e w' => (∃ a c, e = .returned (.slice a 0 c)) ∧ Below w.heap.size w w' := by
  refine (of_of p k i g [] (fun pre => pre <+: []) 0 (by decide) w fun w2 hsz hB0 hx1 hx2 => stops_inv 2 (by decide) _ _ p _ w2 (h.below hB0) (hx1.cell 0)).mono ?_
  rintro e w' ⟨v, rfl, h1, h2⟩
  rcases h1.2 with ⟨rfl, _⟩ | ⟨g', cap, cur, rfl, h3, h4, _⟩
  · exact ⟨⟨_, _, rfl⟩, h2⟩
  · exact ⟨⟨_, _, rfl⟩, h2⟩
end Go.Proofs.YtenggngcigkakaaGreatDoor
