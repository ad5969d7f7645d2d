/- The contracts of the program's Used and All on pools. -/
import Derived.Test.YtjhgckaaaonbiaaUc
namespace Go.Proofs.Ytjhgckaaaonbiaa
open Go.RowKit Go.Shelf
attribute [local go_sem] Oper.semAt_some

theorem Bk.grown' {w w' : World} {g : Nat} {t : TypeId} {cs : Array Value} {row : Option Nat} (h : Bk w g t cs) (hg : w.grownBy w' row) (hr : ∀ r, row = some r → ∃ o, w.heap[r]? = some o ∧ o.isCells = false) : Bk w' g t cs := by
  refine (hg.block g h.lt fun e => ?_).trans h
  obtain ⟨o, ho, hc⟩ := hr g e.symm
  rw [show w.heap[g]? = _ from h] at ho
  cases ho
  cases hc
/-- What the first ones have together. -/
def sumP (P : Po) (l : List (Nat × Nat)) : Nat := (l.map fun r => P.m r.1).sum
theorem sumP_snoc (P : Po) (l : List (Nat × Nat)) (x : Nat × Nat) : sumP P (l ++ [x]) = sumP P l + P.m x.1 := by simp [sumP]
/-- While Used's loop runs. -/
def UsJ (w : World) (P : Po) (pre : List (Nat × Nat)) (W : World) : Prop := Bk W w.heap.size 3 #[.int .i64 (sumP P pre)] ∧ sumP P pre ≤ pre.length * 65536 ∧ w.heap.size + 2 ≤ W.heap.size ∧ Below w.heap.size w W
set_option maxRecDepth 100000 in
set_option maxHeartbeats 4000000 in
theorem used_of (a : Option Addr) (P : Po) (L : List (Nat × Nat)) (hm : ∀ i, P.m i ≤ 65536) (Sp : List (Nat × Nat) → Prop) (N : Nat) (hN : N ≤ 64) (w : World)
    (hseq : ∀ w2, w2.heap.size = w.heap.size + 2 → Below w.heap.size w w2 → w2.cell? ⟨w.heap.size + 1, 0, none⟩ = some (.pointer a) →
      SeqStopsK Fence.wide 2 Try.prog 49 #[.pointer (some ⟨w.heap.size + 1, 0, none⟩)] (encP P) (KpR (· = w.heap.size) (w.heap.size + 2)) (fun ys => ys = L) Sp N w2) :
    Calls Try.prog 21 #[.pointer a] w fun e w' => e = .returned (.int .i64 (sumP P L)) ∧ Below w.heap.size w w' := by
  have HSEQ := Lib.hid hseq
  clear hseq
  refine (callsIn_wide (n := 3)).1 ?_
  refine callsIn_of_wp_marks Try.func21 rfl trivial ?_ rfl
  simp only [Try.ntmps21, List.size_toArray, List.length_cons, List.length_nil, Nat.reduceAdd, Nat.reduceSub, Array.replicate_succ, Array.replicate_zero, List.push_toArray, List.append_toArray, List.nil_append, List.cons_append]
  gi_wp2_with (refine ⟨trivial, ?_⟩; gi_at_call 41; refine (callsIn_wide.2 (pinned_ok _ _)).mono ?_; rintro e w' ⟨rfl, rfl⟩)
  obtain ⟨w1, hw1⟩ : ∃ w1, w.alloc (.cells #[.int .i64 0] 3) = w1 := ⟨_, rfl⟩
  have q1 : Bk w1 w.heap.size 3 #[.int .i64 0] := by rw [← hw1]; exact Bk.new w _ _
  have q4 : w1.heap.size = w.heap.size + 1 := by rw [← hw1, World.size_alloc]
  have q5 : Below w.heap.size w w1 := by rw [← hw1]; exact (Below.refl _ _).alloc (Nat.le_refl _) _
  rw [hw1]
  clear hw1
  obtain ⟨w2, hw2⟩ : ∃ w2, w1.alloc (.cells #[.pointer a] 25) = w2 := ⟨_, rfl⟩
  have hx : w2.cell? ⟨w.heap.size + 1, 0, none⟩ = some (.pointer a) := by
    rw [← hw2, ← q4]; exact (Bk.new w1 _ _).cell 0
  have hal : Below w1.heap.size w1 w2 := by rw [← hw2]; exact (Below.refl _ _).alloc (Nat.le_refl _) _
  have hsz : w2.heap.size = w.heap.size + 2 := by rw [← hw2, World.size_alloc, q4]
  have hB0 : Below w.heap.size w w2 := q5.trans (hal.mono (by omega))
  rw [hw2]
  have k1 := q1.below hal
  clear hw2 q1 q5
  refine wpIn_rangeFunc_ownG rfl (by decide) (gf := 49) (lb := #[.pointer (some ⟨w.heap.size + 1, 0, none⟩)]) rfl trivial (enters_of Try.func49 (by kernel_rfl) rfl)
    (HSEQ.out w2 hsz hB0 hx) KpR.trans (kpR_b (by omega)) (Below.refl _ _) (fun _ => rfl)
    (UsJ w P) (fun _ _ _ => False)
    (fun s A B row hs hg hr => by
      obtain ⟨h1, h2, h3, h4⟩ := hs
      have hr2 := fun r e => (hr r e).2
      exact ⟨h1.grown' hg hr2, h2, Nat.le_trans h3 hg.size, ownFrom_below (β := Unit) (Nat.le_refl _) (by omega) () A B row h4 hg hr⟩)
    (fun _ _ _ _ _ hs _ _ => hs)
    ⟨k1, Nat.zero_le _, by omega, hB0⟩
    (fun x => { tmps := #[.pointer a, undef, .int .i64 0, .pointer (some ⟨w.heap.size, 0, none⟩), undef, .int .i64 (P.m x.1), .pointer a, .func (.func 49) #[] #[.pointer (some ⟨w.heap.size + 1, 0, none⟩)], .agg #[.int .i64 2, .int .i64 x.1, .int .u32 x.2], .int .i64 (P.m x.1), undef, undef, undef, undef], defers := [] }) ?assign ?body ?done ?stop
  case assign =>
    intro l x W K hK
    unfold encP
    gi_wp2
    exact hK
  case body =>
    rintro l pre x W ⟨k1, k2, k3, hB⟩ hlt
    have c1 := k1.cell 0
    have f1 := k1.frozen 0
    simp only [List.getElem?_toArray, List.getElem?_cons_zero] at c1
    have hs := sumP_snoc P pre x
    have hm2 := hm x.1
    have HK : Hid (∀ v : Nat, v = sumP P (pre ++ [x]) → KeepsFrom w2.heap.size W (W.setCell ⟨w.heap.size, 0, none⟩ (.int .i64 v)) ∧ KpR (· = w.heap.size) (w.heap.size + 2) W (W.setCell ⟨w.heap.size, 0, none⟩ (.int .i64 v)) ∧ UsJ w P (pre ++ [x]) (W.setCell ⟨w.heap.size, 0, none⟩ (.int .i64 v))) := fun v hv => by
      subst hv
      refine ⟨(KeepsOthers.setCell _ _ _).from _, ⟨by simp, fun g hg hne => Below.heap_setCell _ _ _ _ hne, fun g cs hb => Below.heap_setCell _ _ _ _ (by rintro rfl; exact absurd (hb.uniq k1).1 (by decide))⟩, k1.put 0 _, by rw [hs, List.length_append]; simp; omega, by simpa using k3, hB.setCell (p := ⟨_, 0, none⟩) (Nat.le_refl _) _⟩
    obtain ⟨sm, hsm⟩ : ∃ sm, sumP P pre = sm := ⟨_, rfl⟩
    obtain ⟨mx, hmx⟩ : ∃ mx, P.m x.1 = mx := ⟨_, rfl⟩
    rw [hsm] at c1 k2 hs
    rw [hmx] at hs hm2 ⊢
    have HS := Lib.hid hs
    have hb : sm ≤ 4194304 := by omega
    clear k1 k2 hB hsm hmx hs
    gi_wp2
    have h := HK.out (sm + mx) HS.out.symm
    rw [Int.natCast_add] at h
    exact h
  case done =>
    rintro D ys W hD rfl ⟨k1, _, _, hB⟩ hK
    have c1 := k1.cell 0
    simp only [List.getElem?_toArray, List.getElem?_cons_zero] at c1
    gi_wp2
    refine ⟨by simp, .inl ⟨_, _, rfl, run_takeDeferred hK, ?_⟩⟩
    exact ⟨_, results_tmp rfl _ _ _, rfl, hB.trans (belowK_b (w := w) (Nat.le_refl _) W D _ _ (by omega) hK rfl rfl)⟩
  case stop =>
    rintro D c pre W _ _ h _
    exact h.elim
theorem pused_ok (b s k : Nat) (P : Po) (w : World) (h : PW w b s k P) : Calls Try.prog 21 #[.pointer (some ⟨b, 0, none⟩)] w fun e w' => e = .returned (.int .i64 P.used) ∧ Below w.heap.size w w' := by
  have e : sumP P P.t.now = P.used := P.used_now
  rw [← e]
  refine used_of _ P P.t.now h.ok.m (fun pre => pre <+: P.t.now) P.t.now.length (by rw [Tb.now_len]; exact h.ok.held_len) w fun w2 hsz hB0 hx => ?_
  refine pin_stops 2 (by decide) (w.heap.size + 1) (w.heap.size + 2) b s k P _ w2 ⟨h.below hB0, hx, fun g hg => ?_, by omega, by omega, by omega⟩
  have := h.foot_lt hg
  exact ⟨by omega, by omega⟩
theorem pused_no (p : Option Addr) (w : World) (h : PInv w p) : Calls Try.prog 21 #[.pointer p] w fun e w' => e = .returned (.int .i64 0) ∧ Below w.heap.size w w' :=
  used_of p (pfresh 1 1 1) [] (fun _ => Nat.zero_le _) (fun _ => False) 0 (by decide) w fun w2 _ hB0 hx => pin_none 2 (by decide) _ p _ _ w2 (h.below hB0) hx

/-! ### All -/
theorem cell_three_new (w : World) (x y z : Value) (t : TypeId) : ∀ j u, [x, y, z][j]? = some u → (w.alloc (.cells #[x, y, z] t)).cell? ((⟨w.heap.size, 0, none⟩ : Addr).add j) = some u := by
  intro j u hj
  have e : (⟨w.heap.size, 0, none⟩ : Addr).add j = ⟨w.heap.size, j, none⟩ := by unfold Addr.add; split <;> simp_all
  rw [e, (Bk.new w t #[x, y, z]).cell]
  simpa using hj
theorem appended3 {W w1 : World} {n₀ n₁ B : Nat} {v v' : Value} {k m : Nat} {xs ys : List Value} {cs : Array Value}
    (hv : Boxed W B 32 v) (hrow : W.ownsRow n₁ 34 3 v k xs) (hn₁ : n₁ ≤ W.heap.size) (hB : n₀ ≤ B) (h01 : n₀ ≤ n₁)
    (hown' : w1.ownsRow n₁ 34 3 v' m ys) (hgrow : (W.alloc (.cells cs 34)).grownBy w1 v.ownBlock) :
    Boxed w1 B 32 v ∧ Boxed (w1.setCell ⟨B, 0, none⟩ v') B 32 v' ∧ (w1.setCell ⟨B, 0, none⟩ v').ownsRow n₁ 34 3 v' m ys ∧ KeepsOthers W (w1.setCell ⟨B, 0, none⟩ v') ∧ Below n₀ W (w1.setCell ⟨B, 0, none⟩ v') ∧ KpR (· = B) n₁ W (w1.setCell ⟨B, 0, none⟩ v') := by
  obtain ⟨h1, h2, h3, h4, h5, h6⟩ := appended2 (n₀ := n₀) hv (by decide) hrow hn₁ hB h01 hown' hgrow
  refine ⟨h1, h2, h3, h4, h5, h6.1, h6.2, fun g cs' hg => ?_⟩
  have hne : g ≠ B := by
    rintro rfl
    have : Bk W g 32 #[v] := hv
    exact absurd (hg.uniq this).1 (by decide)
  rw [Below.heap_setCell _ _ _ _ hne, hgrow.block g (by have := hg.lt; simp; omega) (fun e => absurd (own_type hrow e.symm hg) (by decide))]
  exact Below.heap_alloc _ _ _ hg.lt
/-- A new slice that holds l; nil just where there is none. -/
def NewO (l : List Ro) (w : World) (e : Ending) (w' : World) : Prop :=
  ∃ p c, e = .returned (.slice p l.length c) ∧ w'.ownsRow w.heap.size 34 3 (.slice p l.length c) l.length (ocls l) ∧ Below w.heap.size w w'
theorem all_snoc (l : List (Nat × Nat)) (x : Nat × Nat) : ocls ((l ++ [x]).map bro) = ocls (l.map bro) ++ [.int .i64 2, .int .i64 x.1, .int .u32 x.2] := by
  rw [List.map_append, ocls_append]
  rfl
set_option maxRecDepth 100000 in
set_option maxHeartbeats 4000000 in
theorem all_of (a : Option Addr) (P : Po) (L : List (Nat × Nat)) (Sp : List (Nat × Nat) → Prop) (N : Nat) (hN : N ≤ 64) (w : World)
    (hseq : ∀ w2, w2.heap.size = w.heap.size + 2 → Below w.heap.size w w2 → w2.cell? ⟨w.heap.size + 1, 0, none⟩ = some (.pointer a) →
      SeqStopsK Fence.wide 2 Try.prog 49 #[.pointer (some ⟨w.heap.size + 1, 0, none⟩)] (encP P) (KpR (· = w.heap.size) (w.heap.size + 2)) (fun ys => ys = L) Sp N w2) :
    Calls Try.prog 22 #[.pointer a] w (NewO (L.map bro) w) := by
  obtain ⟨i0, hi, hz0, hz1, hz2⟩ := info_parts info_out
  have HSEQ := Lib.hid hseq
  clear hseq
  refine (callsIn_wide (n := 3)).1 ?_
  refine callsIn_of_wp_marks Try.func22 rfl trivial ?_ rfl
  simp only [Try.ntmps22, List.size_toArray, List.length_cons, List.length_nil, Nat.reduceAdd, Nat.reduceSub, Array.replicate_succ, Array.replicate_zero, List.push_toArray, List.append_toArray, List.nil_append, List.cons_append]
  gi_wp2_with (refine ⟨trivial, ?_⟩; gi_at_call 41; refine (callsIn_wide.2 (pinned_ok _ _)).mono ?_; rintro e w' ⟨rfl, rfl⟩)
  have bO := Boxed.new w 32 (.slice none 0 0)
  obtain ⟨w1, hw1⟩ : ∃ w1, w.alloc (.cells #[.slice none 0 0] 32) = w1 := ⟨_, rfl⟩
  have q4 : w1.heap.size = w.heap.size + 1 := by rw [← hw1, World.size_alloc]
  have q5 : Below w.heap.size w w1 := by rw [← hw1]; exact (Below.refl _ _).alloc (Nat.le_refl _) _
  rw [hw1] at bO ⊢
  clear hw1
  obtain ⟨w2, hw2⟩ : ∃ w2, w1.alloc (.cells #[.pointer a] 25) = w2 := ⟨_, rfl⟩
  have hx : w2.cell? ⟨w.heap.size + 1, 0, none⟩ = some (.pointer a) := by
    rw [← hw2, ← q4]; exact (Bk.new w1 _ _).cell 0
  have bO2 : Boxed w2 w.heap.size 32 (.slice none 0 0) := by rw [← hw2]; exact bO.alloc _
  have hal : Below w1.heap.size w1 w2 := by rw [← hw2]; exact (Below.refl _ _).alloc (Nat.le_refl _) _
  have hsz : w2.heap.size = w.heap.size + 2 := by rw [← hw2, World.size_alloc, q4]
  have hB0 : Below w.heap.size w w2 := q5.trans (hal.mono (by omega))
  rw [hw2]
  clear hw2 bO q5
  refine wpIn_rangeFunc_ownH rfl (by decide) (gf := 49) (lb := #[.pointer (some ⟨w.heap.size + 1, 0, none⟩)]) rfl trivial (enters_of Try.func49 (by kernel_rfl) rfl)
    (HSEQ.out w2 hsz hB0 hx) KpR.trans (kpR_b (by omega)) (Below.refl _ _) (fun _ => rfl)
    (fun pre W => ((∃ v, Boxed W w.heap.size 32 v ∧ W.ownsRow (w.heap.size + 2) 34 3 v pre.length (ocls (pre.map bro)) ∧ (v = .slice none 0 0 ↔ pre = [])) ∧ w.heap.size + 2 ≤ W.heap.size) ∧ Below w.heap.size w W)
    (fun _ _ _ => False)
    (OwnFrom.and (OwnFrom.and (Own.from (holdsRow_own (w.heap.size + 2) w.heap.size 32 34 3 (fun pre => pre.length) (fun pre => ocls (pre.map bro)) (fun pre v => v = .slice none 0 0 ↔ pre = [])) _) (fun _ _ _ _ hs hg _ => Nat.le_trans hs hg.size)) (ownFrom_below (Nat.le_refl _) (by omega)))
    (fun _ _ _ _ _ hs _ _ => hs)
    ⟨⟨⟨_, bO2, World.ownsRow_nil _ _ _ _, by simp⟩, by omega⟩, hB0⟩
    (fun x a' W => ∃ B4, w.heap.size + 2 ≤ B4 ∧ Bk W B4 34 #[.int .i64 2, .int .i64 x.1, .int .u32 x.2] ∧ a' = { tmps := #[.pointer a, undef, .slice none 0 0, .pointer (some ⟨w.heap.size, 0, none⟩), .pointer (some ⟨B4, 0, none⟩), .pointer a, .func (.func 49) #[] #[.pointer (some ⟨w.heap.size + 1, 0, none⟩)], .agg #[.int .i64 2, .int .i64 x.1, .int .u32 x.2], .int .i64 (P.m x.1), undef, undef, undef, undef, undef], defers := [] })
    (fun x a' => fun s W W' row hs hg hr => by
      obtain ⟨B4, h1, h2, h3⟩ := hs
      exact ⟨B4, h1, h2.grown hg (fun r e => (hr r e).2), h3⟩) ?assign ?body ?done ?stop
  case assign =>
    rintro l pre x W K ⟨⟨⟨v, hv, hrow, hnil⟩, hsW⟩, hB⟩ hK
    have HK := Lib.hid hK
    clear hK
    unfold encP
    gi_wp2
    have hal : Below W.heap.size W (W.alloc (.cells #[.int .i64 2, .int .i64 x.1, .int .u32 x.2] 34)) := (Below.refl _ W).alloc (Nat.le_refl _) _
    exact HK.out _ _ ((KeepsOthers.alloc W _).from _) (KpR.of_below hal hsW) ⟨⟨⟨v, hv.alloc _, hrow.alloc _, hnil⟩, Nat.le_trans hsW hal.size⟩, hB.alloc (by omega) _⟩ ⟨W.heap.size, hsW, Bk.new W _ _, rfl⟩
  case body =>
    rintro l pre x a' W _ _ ⟨⟨⟨v, hv, hrow, hnil⟩, hsW⟩, hB⟩ ⟨B4, hB4, hbk, rfl⟩ hlt2
    have hc := hv.cell
    have hb0 := hbk.cell 0
    have hb1 := hbk.cell 1
    have hb2' := hbk.cell 2
    simp only [List.getElem?_toArray, List.getElem?_cons_zero, List.getElem?_cons_succ] at hb0 hb1 hb2'
    have hsn := all_snoc pre x
    obtain ⟨i, y⟩ := x
    simp only at hsn hb0 hb1 hb2' ⊢
    gi_wp2_with (gi_at_builtin; refine wpListIn_append_own _ rfl _ _ 32 rfl (w.heap.size + 2) 34 i0 (.agg #[.int .i64 0, .int .i64 0, .int .u32 0]) 3 24 Try.underlying32 hi hz0 hz1 hz2 rfl (by decide) _ _ _ rfl (hrow.alloc _) ⟨W.heap.size, 0, none⟩ 1 1 [.int .i64 2, .int .i64 i, .int .u32 y] rfl rfl (cell_three_new _ _ _ _ _) (by simp [Value.oneCell']) (by unfold maxLen; omega) (by omega) (by simp; omega) ?_; intro v' w1 hown' hgrow _; obtain ⟨g', cap', rfl⟩ := ownsRow_succ hown'; obtain ⟨hv1, hv2, hr2, hk2, hb2, hkp⟩ := appended3 (n₀ := w.heap.size) hv hrow hsW (Nat.le_refl _) (by omega) hown' hgrow; have hc1 := hv1.cell; have hf1 := hv1.frozen)
    exact ⟨hk2.from _, hkp, ⟨⟨_, hv2, by rw [hsn]; simpa using hr2, by simp⟩, Nat.le_trans hsW hb2.size⟩, hB.trans hb2⟩
  case done =>
    rintro D ys W hD rfl ⟨⟨⟨v, hv, hrow, hnil⟩, _⟩, hB⟩ hK
    have hc := hv.cell
    gi_wp2
    refine ⟨by simp, .inl ⟨_, _, rfl, run_takeDeferred hK, ?_⟩⟩
    obtain ⟨p, c, rfl⟩ := own_form hrow
    have hl : (ys.map bro).length = ys.length := by simp
    refine ⟨_, results_tmp rfl _ _ _, p, c, by rw [hl]; rfl, ?_, hB.trans (belowK_b (w := w) (Nat.le_refl _) W D _ _ (by omega) hK rfl rfl)⟩
    rw [hl]; exact own_lower (ownsRow_putObj hrow _ hK rfl) (by omega)
  case stop =>
    rintro D c pre W _ _ h _
    exact h.elim
theorem pall_ok (b s k : Nat) (P : Po) (w : World) (h : PW w b s k P) : Calls Try.prog 22 #[.pointer (some ⟨b, 0, none⟩)] w (NewO P.all w) := by
  refine all_of _ P P.t.now (fun pre => pre <+: P.t.now) P.t.now.length (by rw [Tb.now_len]; exact h.ok.held_len) w fun w2 hsz hB0 hx => ?_
  refine pin_stops 2 (by decide) (w.heap.size + 1) (w.heap.size + 2) b s k P _ w2 ⟨h.below hB0, hx, fun g hg => ?_, by omega, by omega, by omega⟩
  have := h.foot_lt hg
  exact ⟨by omega, by omega⟩
theorem pall_no (p : Option Addr) (w : World) (h : PInv w p) : Calls Try.prog 22 #[.pointer p] w (NewO [] w) :=
  all_of p (pfresh 1 1 1) [] (fun _ => False) 0 (by decide) w fun w2 _ hB0 hx => pin_none 2 (by decide) _ p _ _ w2 (h.below hB0) hx
end Go.Proofs.Ytjhgckaaaonbiaa
