/- The contracts of slots' Taken. -/
import Derived.Test.YtfnhkapbfgofkaaSe
namespace Go.Proofs.Ytfnhkapbfgofkaa
open Go.RowKit Go.Shelf
attribute [local go_sem] Oper.semAt_some

theorem info_ref : (Try.prog.info? 34).map (fun i => (i.zero, i.size, i.bytes)) = some (some (.agg #[.int .i64 0, .int .u32 0]), 2, 16) := by kernel_rfl
theorem info_parts {P : Program} {t : TypeId} {z : Value} {s b : Nat} (h : (P.info? t).map (fun i => (i.zero, i.size, i.bytes)) = some (some z, s, b)) : ∃ i, P.info? t = some i ∧ i.zero = some z ∧ i.size = s ∧ i.bytes = b := by
  cases hq : P.info? t with
  | none => simp [hq] at h
  | some i => simp [hq] at h; exact ⟨i, rfl, h.1, h.2.1, h.2.2⟩

theorem Bk.grown {W W' : World} {row : Option Nat} {B : Nat} {t : TypeId} {cs : Array Value} (h : Bk W B t cs) (hg : W.grownBy W' row) (hr : ∀ r, row = some r → ∃ o : Obj, W.heap[r]? = some o ∧ o.isCells = false) : Bk W' B t cs :=
  (hg.block B h.lt (fun e => by obtain ⟨o, ho, hc⟩ := hr B e.symm; rw [show W.heap[B]? = _ from h] at ho; cases ho; cases hc)).trans h
theorem pairs_snoc (l : List (Nat × Nat)) (r : Nat × Nat) : pairs (l ++ [r]) = pairs l ++ [.int .i64 r.1, .int .u32 r.2] := by simp [pairs]
theorem pairs_len (l : List (Nat × Nat)) : (pairs l).length = l.length * 2 := by
  induction l with
  | nil => rfl
  | cons a l ih => simp only [pairs, List.flatMap_cons, List.length_append, List.length_cons] at ih ⊢; rw [ih]; simp; omega
theorem refs_snoc (T : Tb) (l : List Nat) (x : Nat) : T.refs (l ++ [x]) = T.refs l ++ [(x, T.g x)] := by simp [Tb.refs]

/-- A new slice that holds the references l; nil just where there is none. -/
def TakenV (l : List (Nat × Nat)) (w : World) (e : Ending) (w' : World) : Prop :=
  ∃ v, e = .returned v ∧ w'.ownsRow w.heap.size 34 2 v l.length (pairs l) ∧ (v = .slice none 0 0 ↔ l = []) ∧ Below w.heap.size w w'
theorem ownsRow_lower {w : World} {a b : Nat} {e : TypeId} {s : Nat} {v : Value} {n : Nat} {xs : List Value} (h : w.ownsRow a e s v n xs) (hb : b ≤ a) : w.ownsRow b e s v n xs := by
  refine ⟨h.1, ?_⟩
  rcases h.2 with h | ⟨g, cap, cur, h1, h2, h3⟩
  · exact .inl h
  · exact .inr ⟨g, cap, cur, h1, by omega, h3⟩
theorem cell_two_new (w : World) (x y : Value) (t : TypeId) : ∀ j u, [x, y][j]? = some u → (w.alloc (.cells #[x, y] t)).cell? ((⟨w.heap.size, 0, none⟩ : Addr).add j) = some u := by
  intro j u hj
  have e : (⟨w.heap.size, 0, none⟩ : Addr).add j = ⟨w.heap.size, j, none⟩ := by unfold Addr.add; split <;> simp_all
  rw [e, (Bk.new w t #[x, y]).cell]
  simpa using hj
theorem appended2 {W w1 : World} {n₀ n₁ B : Nat} {t e : TypeId} {size : Nat} {v v' : Value} {k m : Nat} {xs ys : List Value} {tmp : Obj}
    (hv : Boxed W B t v) (hte : t ≠ e) (hrow : W.ownsRow n₁ e size v k xs) (hn₁ : n₁ ≤ W.heap.size) (hB : n₀ ≤ B) (h01 : n₀ ≤ n₁)
    (hown' : w1.ownsRow n₁ e size v' m ys) (hgrow : (W.alloc tmp).grownBy w1 v.ownBlock) :
    Boxed w1 B t v ∧ Boxed (w1.setCell ⟨B, 0, none⟩ v') B t v' ∧ (w1.setCell ⟨B, 0, none⟩ v').ownsRow n₁ e size v' m ys ∧ KeepsOthers W (w1.setCell ⟨B, 0, none⟩ v') ∧ Below n₀ W (w1.setCell ⟨B, 0, none⟩ v') ∧ KpS (· = B) n₁ W (w1.setCell ⟨B, 0, none⟩ v') := by
  have hv1 : Boxed w1 B t v := (hv.alloc tmp).kept hgrow (hv.not_row hte hrow)
  have hge : ∀ j, v.ownBlock = some j → n₁ ≤ j := fun j ej => (hrow.lt j ej).1
  have hbl : Below n₀ W (w1.setCell ⟨B, 0, none⟩ v') := (((Below.refl n₀ W).alloc (by omega) tmp).grown hgrow (by simp; omega) fun j ej => by have := hge j ej; omega).setCell (p := ⟨B, 0, none⟩) hB v'
  refine ⟨hv1, hv1.set v', hown'.kept (grownBy_setCell' w1 B v') (.inr (hv1.not_row hte hown').symm), ?_, hbl, hbl.size, ?_⟩
  · refine ((KeepsOthers.alloc W tmp).trans (KeepsOthers.of_grownBy hgrow fun j o ej hj => ?_)).trans (KeepsOthers.setCell _ _ _)
    rcases (hrow.alloc tmp).2 with ⟨rfl, _⟩ | ⟨g, cap, cur, rfl, _, hgb, _⟩
    · simp [Value.ownBlock] at ej
    · obtain rfl : g = j := by simpa [Value.ownBlock] using ej
      rw [hgb] at hj; cases hj; rfl
  · intro j hj hx
    rw [Below.heap_setCell _ _ _ _ hx, hgrow.block j (by simp; omega) (fun e => by have := hge j e.symm; omega)]
    exact Below.heap_alloc _ _ _ (by omega)

def encR (T : Tb) : Nat → Array Value := fun x => #[.agg #[.int .i64 ((x : Nat) : Int), .int .u32 (T.g x)]]
theorem in_stops (n : Nat) (hn : 1 ≤ n) (Bs Bw n₀ b : Nat) (T : Tb) (v : Nat) (X : Nat → Prop) (w : World) (hA : InAt w X n₀ Bs Bw b T v) :
    SeqStopsK Fence.wide n Try.prog 75 #[.pointer (some ⟨Bs, 0, none⟩), .pointer (some ⟨Bw, 0, none⟩)] (encR T) (KpS X n₀) (fun ys => ys = sel T.s v T.n) (fun pre => pre <+: sel T.s v T.n) (sel T.s v T.n).length w := fun l J Jx W hW hJ _ hY h0 =>
  in1_in n hn l Bs Bw n₀ b W.heap.size T v X J Jx hJ (fun pre x W _ => hY pre x W) W (hA.kp (KpS.of_below hW hA.sz)) h0
theorem stops_inv (n : Nat) (hn : 1 ≤ n) (Bs : Nat) (q : Value) (v : Option Addr) (T : Tb) (Kp : World → World → Prop) (w : World) (hv : Inv w v) (hbs : w.cell? ⟨Bs, 0, none⟩ = some (.pointer v)) :
    SeqStopsK Fence.wide n Try.prog 75 #[.pointer (some ⟨Bs, 0, none⟩), q] (encR T) Kp (fun ys => ys = []) (fun _ => False) 0 w := fun l J Jx W hW _ _ hY h0 => by
  have hbs2 := (hW.cell (p := ⟨Bs, 0, none⟩) (World.block_lt_of_cell? _ _ hbs)).trans hbs
  have HV := Lib.hid (hv.below hW)
  have H0 := Lib.hid h0
  clear hv hbs h0 hY hW
  refine callsIn_of_wp Try.func75 rfl trivial ?_ rfl
  simp only [Try.ntmps75, List.size_toArray, List.length_cons, List.length_nil, Nat.reduceAdd, Nat.reduceSub, Array.replicate_succ, Array.replicate_zero, List.push_toArray, List.append_toArray, List.nil_append, List.cons_append]
  gi_wp2_with (refine ⟨trivial, ?_⟩; gi_at_call 65; refine (callsIn_wide.2 (valid_no _ _ HV.out)).mono ?_; rintro e w' ⟨rfl, rfl⟩)
  refine bodyPost_ret (results_none rfl _ _ _) rfl ?_
  exact ⟨⟨_, rfl⟩, .inl ⟨_, rfl, H0.out⟩⟩

set_option maxRecDepth 100000 in
set_option maxHeartbeats 2000000 in
theorem taken_of (a : Option Addr) (T : Tb) (L : List Nat) (Sp : List Nat → Prop) (N : Nat) (hN : N ≤ 256) (w : World)
    (hseq : ∀ w2, w2.heap.size = w.heap.size + 3 → Below w.heap.size w w2 → w2.cell? ⟨w.heap.size + 1, 0, none⟩ = some (.pointer a) → w2.cell? ⟨w.heap.size + 2, 0, none⟩ = some (.int .i64 1) →
      SeqStopsK Fence.wide 2 Try.prog 75 #[.pointer (some ⟨w.heap.size + 1, 0, none⟩), .pointer (some ⟨w.heap.size + 2, 0, none⟩)] (encR T) (KpS (· = w.heap.size) (w.heap.size + 3)) (fun ys => ys = L) Sp N w2) :
    Calls Try.prog 60 #[.pointer a] w (TakenV (T.refs L) w) := by
  obtain ⟨i0, hi, hz0, hz1, hz2⟩ := info_parts info_ref
  have HSEQ := Lib.hid hseq
  clear hseq
  refine (callsIn_wide (n := 3)).1 ?_
  refine callsIn_of_wp_marks Try.func60 rfl trivial ?_ rfl
  simp only [Try.ntmps60, List.size_toArray, List.length_cons, List.length_nil, Nat.reduceAdd, Nat.reduceSub, Array.replicate_succ, Array.replicate_zero, List.push_toArray, List.append_toArray, List.nil_append, List.cons_append]
  gi_wp2_with (refine ⟨trivial, ?_⟩; gi_at_call 66; refine (callsIn_wide.2 (in_ok _ _ _)).mono ?_; rintro e w' ⟨rfl, rfl⟩)
  have bO := Boxed.new w 32 (.slice none 0 0)
  obtain ⟨w2, hw2⟩ : ∃ w2, ((w.alloc (.cells #[.slice none 0 0] 32)).alloc (.cells #[.pointer a] 77)).alloc (.cells #[.int .i64 1] 107) = w2 := ⟨_, rfl⟩
  obtain ⟨hx1, hx2, hx3, hx4⟩ := boxes (w.alloc (.cells #[.slice none 0 0] 32)) _ _ hw2
  rw [World.size_alloc] at hx1 hx2 hx3 hx4
  have hsz : w2.heap.size = w.heap.size + 3 := hx3
  have hB0 : Below w.heap.size w w2 := ((Below.refl _ w).alloc (Nat.le_refl _) _).trans (hx4.mono (by omega))
  have bO2 : Boxed w2 w.heap.size 32 (.slice none 0 0) := by rw [← hw2]; exact (bO.alloc _).alloc _
  rw [hw2]
  refine wpIn_rangeFunc_ownH rfl (by decide) (gf := 75) (lb := #[.pointer (some ⟨w.heap.size + 1, 0, none⟩), .pointer (some ⟨w.heap.size + 2, 0, none⟩)]) rfl trivial (enters_of Try.func75 (by kernel_rfl) rfl)
    (HSEQ.out w2 hsz hB0 hx1 hx2) KpS.trans (kpS_b (by omega)) (Below.refl _ _) (fun _ => rfl)
    (fun pre W => ((∃ v, Boxed W w.heap.size 32 v ∧ W.ownsRow (w.heap.size + 3) 34 2 v pre.length (pairs (T.refs pre)) ∧ (v = .slice none 0 0 ↔ pre = [])) ∧ w.heap.size + 3 ≤ W.heap.size) ∧ Below w.heap.size w W)
    (fun _ _ _ => False)
    (OwnFrom.and (OwnFrom.and (Own.from (holdsRow_own (w.heap.size + 3) w.heap.size 32 34 2 (fun pre => pre.length) (fun pre => pairs (T.refs pre)) (fun pre v => v = .slice none 0 0 ↔ pre = [])) _) (fun _ _ _ _ hs hg _ => Nat.le_trans hs hg.size)) (ownFrom_below (Nat.le_refl _) (by omega)))
    (fun _ _ _ _ _ hs _ _ => hs)
    ⟨⟨⟨_, bO2, World.ownsRow_nil _ _ _ _, by simp⟩, by omega⟩, hB0⟩
    (fun x a' W => ∃ B4, w.heap.size + 3 ≤ B4 ∧ Bk W B4 34 #[.int .i64 ((x : Nat) : Int), .int .u32 (T.g x)] ∧ a' = { tmps := #[.pointer a, undef, .slice none 0 0, .pointer (some ⟨w.heap.size, 0, none⟩), .pointer (some ⟨B4, 0, none⟩), .pointer a, .func (.func 75) #[] #[.pointer (some ⟨w.heap.size + 1, 0, none⟩), .pointer (some ⟨w.heap.size + 2, 0, none⟩)], .agg #[.int .i64 ((x : Nat) : Int), .int .u32 (T.g x)], undef, undef, undef, undef, undef], defers := [] })
    (fun x a' => fun s W W' row hs hg hr => by
      obtain ⟨B4, h1, h2, h3⟩ := hs
      exact ⟨B4, h1, h2.grown hg (fun r e => (hr r e).2), h3⟩) ?assign ?body ?done ?stop
  case assign =>
    rintro l pre x W K ⟨⟨⟨v, hv, hrow, hnil⟩, hsW⟩, hB⟩ hK
    have HK := Lib.hid hK
    clear hK
    unfold encR
    gi_wp2
    have hal : Below W.heap.size W (W.alloc (.cells #[.int .i64 ((x : Nat) : Int), .int .u32 (T.g x)] 34)) := (Below.refl _ W).alloc (Nat.le_refl _) _
    exact HK.out _ _ ((KeepsOthers.alloc W _).from _) (KpS.of_below hal hsW) ⟨⟨⟨v, hv.alloc _, hrow.alloc _, hnil⟩, Nat.le_trans hsW hal.size⟩, hB.alloc (by omega) _⟩ ⟨W.heap.size, hsW, Bk.new W _ _, rfl⟩
  case body =>
    rintro l pre x a' W _ _ ⟨⟨⟨v, hv, hrow, hnil⟩, hsW⟩, hB⟩ ⟨B4, hB4, hbk, rfl⟩ hlt2
    have hc := hv.cell
    have hb0 := hbk.cell 0
    have hb1 := hbk.cell 1
    simp only [List.getElem?_toArray, List.getElem?_cons_zero, List.getElem?_cons_succ] at hb0 hb1
    generalize hy : T.g x = y at *
    gi_wp2_with (gi_at_builtin; refine wpListIn_append_own _ rfl _ _ 32 rfl (w.heap.size + 3) 34 i0 (.agg #[.int .i64 0, .int .u32 0]) 2 16 Try.underlying32 hi hz0 hz1 hz2 rfl (by decide) _ _ _ rfl (hrow.alloc _) ⟨W.heap.size, 0, none⟩ 1 1 [.int .i64 ((x : Nat) : Int), .int .u32 y] rfl rfl (cell_two_new _ _ _ _) (by simp [Value.oneCell']) (by unfold maxLen; omega) (by omega) (by simp; omega) ?_; intro v' w1 hown' hgrow _; obtain ⟨g', cap', rfl⟩ := ownsRow_succ hown'; obtain ⟨hv1, hv2, hr2, hk2, hb2, hkp⟩ := appended2 (n₀ := w.heap.size) hv (by decide) hrow hsW (Nat.le_refl _) (by omega) hown' hgrow; have hc1 := hv1.cell; have hf1 := hv1.frozen)
    exact ⟨hk2.from _, hkp, ⟨⟨_, hv2, by rw [refs_snoc, pairs_snoc, hy]; simpa using hr2, by simp⟩, Nat.le_trans hsW hb2.size⟩, hB.trans hb2⟩
  case done =>
    rintro D ys W hD rfl ⟨⟨⟨v, hv, hrow, hnil⟩, _⟩, hB⟩ hK
    have hc := hv.cell
    gi_wp2
    refine ⟨by simp, .inl ⟨_, _, rfl, run_takeDeferred hK, ?_⟩⟩
    have hl : (T.refs ys).length = ys.length := by simp [Tb.refs]
    refine ⟨_, results_tmp rfl _ _ _, v, rfl, ?_, ?_, hB.trans (belowK_b (w := w) (Nat.le_refl _) W D _ _ (by omega) hK rfl rfl)⟩
    · rw [hl]; exact ownsRow_lower (ownsRow_putObj hrow _ hK rfl) (by omega)
    · rw [hnil]; simp [Tb.refs]
  case stop =>
    rintro D c pre W _ _ h _
    exact h.elim
theorem taken_ok (b : Nat) (T : Tb) (w : World) (h : TabW w b T) : Calls Try.prog 60 #[.pointer (some ⟨b, 0, none⟩)] w (TakenV T.now w) := by
  have hlb := h.bt
  refine taken_of _ T T.held (fun pre => pre <+: sel T.s 1 T.n) (sel T.s 1 T.n).length (T.held_len h.ok) w fun w2 hsz hB0 hx1 hx2 => ?_
  exact in_stops 2 (by decide) (w.heap.size + 1) (w.heap.size + 2) (w.heap.size + 3) b T 1 _ w2 ⟨h.below hB0, hx1, hx2, by omega, by omega, by omega, by omega, by omega, by omega, by omega⟩
theorem taken_inv (v : Option Addr) (w : World) (h : Inv w v) : Calls Try.prog 60 #[.pointer v] w fun e w' => e = .returned (.slice none 0 0) ∧ Below w.heap.size w w' := by
  refine (taken_of v zeroT [] (fun _ => False) 0 (by decide) w fun w2 hsz hB0 hx1 hx2 => stops_inv 2 (by decide) _ _ v zeroT _ w2 (h.below hB0) hx1).mono ?_
  rintro e w' ⟨u, rfl, _, h2, h3⟩
  rw [h2.2 rfl]
  exact ⟨rfl, h3⟩
end Go.Proofs.Ytfnhkapbfgofkaa
