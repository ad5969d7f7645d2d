/- The contracts of bits' numbers, All and Next. -/
import Derived.Test.YtaenemdclmnnaaaDoorBf
namespace Go.Proofs.YtaenemdclmnnaaaDoor
open Go.RowKit Go.Shelf
attribute [local go_sem] Oper.semAt_some

theorem numbers_ok (a : Option Addr) (fr : Int) (w : World) : Calls Tryd.prog 50 #[.pointer a, .int .i64 fr] w fun e w' => e = .returned (.func (.func 52) #[] #[.pointer (some ⟨w.heap.size, 0, none⟩), .pointer (some ⟨w.heap.size + 1, 0, none⟩)]) ∧ (w.alloc (.cells #[.pointer a] 24)).alloc (.cells #[.int .i64 fr] 3) = w' := by
  go_enter Tryd.func50, Tryd.ntmps50
  go_wp2
  go_ret
  exact ⟨rfl, rfl⟩
/-- What the two boxes hold that numbers has laid. -/
theorem boxes (w : World) (a : Option Addr) (fr : Int) {w2 : World} (h : (w.alloc (.cells #[.pointer a] 24)).alloc (.cells #[.int .i64 fr] 3) = w2) :
    w2.cell? ⟨w.heap.size, 0, none⟩ = some (.pointer a) ∧ w2.cell? ⟨w.heap.size + 1, 0, none⟩ = some (.int .i64 fr) ∧ w2.heap.size = w.heap.size + 2 ∧ Below w.heap.size w w2 := by
  subst h
  have b1 := (Bk.new w 24 #[.pointer a]).same (w' := (w.alloc (.cells #[.pointer a] 24)).alloc (.cells #[.int .i64 fr] 3)) (Below.heap_alloc _ _ _ (by simp))
  have b2 := Bk.new (w.alloc (.cells #[.pointer a] 24)) 3 #[.int .i64 fr]
  rw [World.size_alloc] at b2
  exact ⟨b1.cell 0, b2.cell 0, by simp, ((Below.refl _ w).alloc (Nat.le_refl _) _).alloc (by simp) _⟩

theorem appended2 {W w1 : World} {n₀ n₁ B : Nat} {t e : TypeId} {size : Nat} {v v' : Value} {k m : Nat} {xs ys : List Value} {tmp : Obj}
    (hv : Boxed W B t v) (hte : t ≠ e) (hrow : W.ownsRow n₁ e size v k xs) (hn₁ : n₁ ≤ W.heap.size) (hB : n₀ ≤ B) (h01 : n₀ ≤ n₁)
    (hown' : w1.ownsRow n₁ e size v' m ys) (hgrow : (W.alloc tmp).grownBy w1 v.ownBlock) :
    Boxed w1 B t v ∧ Boxed (w1.setCell ⟨B, 0, none⟩ v') B t v' ∧ (w1.setCell ⟨B, 0, none⟩ v').ownsRow n₁ e size v' m ys ∧ KeepsOthers W (w1.setCell ⟨B, 0, none⟩ v') ∧ Below n₀ W (w1.setCell ⟨B, 0, none⟩ v') ∧ KpS (· = B) n₁ W (w1.setCell ⟨B, 0, none⟩ v') := by
  have hv1 : Boxed w1 B t v := (hv.alloc tmp).kept hgrow (hv.not_row hte hrow)
  have hge : ∀ j, v.ownBlock = some j → n₁ ≤ j := fun j ej => (hrow.lt j ej).1
  refine ⟨hv1, hv1.set v', hown'.kept (grownBy_setCell' w1 B v') (.inr (hv1.not_row hte hown').symm), ?_, ?_, ?_⟩
  · refine ((KeepsOthers.alloc W tmp).trans (KeepsOthers.of_grownBy hgrow fun j o ej hj => ?_)).trans (KeepsOthers.setCell _ _ _)
    rcases (hrow.alloc tmp).2 with ⟨rfl, _⟩ | ⟨g, cap, cur, rfl, _, hgb, _⟩
    · simp [Value.ownBlock] at ej
    · obtain rfl : g = j := by simpa [Value.ownBlock] using ej
      rw [hgb] at hj; cases hj; rfl
  · exact (((Below.refl n₀ W).alloc (by omega) tmp).grown hgrow (by simp; omega) fun j ej => by have := hge j ej; omega).setCell (p := ⟨B, 0, none⟩) hB v'
  · intro j hj hx
    rw [Below.heap_setCell _ _ _ _ hx, hgrow.block j (by simp; omega) (fun e => by have := hge j e.symm; omega)]
    exact Below.heap_alloc _ _ _ (by omega)

theorem KpS.of_below {X : Nat → Prop} {n₀ : Nat} {A B : World} (h : Below A.heap.size A B) (hn : n₀ ≤ A.heap.size) : KpS X n₀ A B := fun k hk _ => h.block k (by omega)
theorem numbers_stops (n : Nat) (hn : 1 ≤ n) (Bs Bf n₀ b g m : Nat) (f : Nat → Bool) (fr : Int) (X : Nat → Prop) (w : World) (hA : NumAt w X n₀ Bs Bf b g m f fr) (hfr : fr ≤ 9223372036854775807) (hn₀ : n₀ ≤ w.heap.size) :
    SeqStopsK Fence.wide n Tryd.prog 52 #[.pointer (some ⟨Bs, 0, none⟩), .pointer (some ⟨Bf, 0, none⟩)] (fun x : Nat => #[Value.int .i64 ((x : Nat) : Int)]) (KpS X n₀) (fun ys => ys = from_ f m fr) (fun pre => pre <+: from_ f m fr) (from_ f m fr).length w := fun l J Jx W hW _ _ hY h0 =>
  numbers1_in n hn l Bs Bf n₀ b g m f fr X J Jx hY W (hA.kp (KpS.of_below hW hn₀)) hfr h0

theorem from_zero (f : Nat → Bool) (m : Nat) : from_ f m 0 = lst f m := by
  unfold from_
  rw [List.filter_eq_self]
  intro a _; simp

def ints (l : List Nat) : List Value := l.map fun (k : Nat) => .int .i64 ((k : Nat) : Int)
/-- A new slice that holds the numbers l; nil just where there is none. -/
def AllV (l : List Nat) (w : World) (e : Ending) (w' : World) : Prop :=
  ∃ v, e = .returned v ∧ w'.ownsRow w.heap.size 3 1 v l.length (ints l) ∧ (v = .slice none 0 0 ↔ l = []) ∧ Below w.heap.size w w'
theorem ownsRow_lower {w : World} {a b : Nat} {e : TypeId} {s : Nat} {v : Value} {n : Nat} {xs : List Value} (h : w.ownsRow a e s v n xs) (hb : b ≤ a) : w.ownsRow b e s v n xs := by
  refine ⟨h.1, ?_⟩
  rcases h.2 with h | ⟨g, cap, cur, h1, h2, h3⟩
  · exact .inl h
  · exact .inr ⟨g, cap, cur, h1, by omega, h3⟩

set_option maxRecDepth 100000 in
set_option maxHeartbeats 2000000 in
theorem all_of (a : Option Addr) (L : List Nat) (Sp : List Nat → Prop) (N : Nat) (hN : N ≤ 4096) (w : World)
    (hseq : ∀ w2, w2.heap.size = w.heap.size + 3 → Below w.heap.size w w2 → w2.cell? ⟨w.heap.size + 1, 0, none⟩ = some (.pointer a) → w2.cell? ⟨w.heap.size + 2, 0, none⟩ = some (.int .i64 0) →
      SeqStopsK Fence.wide 2 Tryd.prog 52 #[.pointer (some ⟨w.heap.size + 1, 0, none⟩), .pointer (some ⟨w.heap.size + 2, 0, none⟩)] (fun x : Nat => #[Value.int .i64 ((x : Nat) : Int)]) (KpS (· = w.heap.size) (w.heap.size + 3)) (fun ys => ys = L) Sp N w2) :
    Calls Tryd.prog 29 #[.pointer a] w (AllV L w) := by
  obtain ⟨i0, hi, hz0, hz1, hz2⟩ := info_parts info_int
  have HSEQ := Lib.hid hseq
  clear hseq
  refine (callsIn_wide (n := 3)).1 ?_
  refine callsIn_of_wp_marks Tryd.func29 rfl trivial ?_ rfl
  simp only [Tryd.ntmps29, List.size_toArray, List.length_cons, List.length_nil, Nat.reduceAdd, Nat.reduceSub, Array.replicate_succ, Array.replicate_zero, List.push_toArray, List.append_toArray, List.nil_append, List.cons_append]
  gi_wp2_with (refine ⟨trivial, ?_⟩; gi_at_call 50; refine (callsIn_wide.2 (numbers_ok _ _ _)).mono ?_; rintro e w' ⟨rfl, rfl⟩)
  have bO := Boxed.new w 48 (.slice none 0 0)
  obtain ⟨w2, hw2⟩ : ∃ w2, ((w.alloc (.cells #[.slice none 0 0] 48)).alloc (.cells #[.pointer a] 24)).alloc (.cells #[.int .i64 0] 3) = w2 := ⟨_, rfl⟩
  obtain ⟨hx1, hx2, hx3, hx4⟩ := boxes (w.alloc (.cells #[.slice none 0 0] 48)) _ _ hw2
  rw [World.size_alloc] at hx1 hx2 hx3 hx4
  have hsz : w2.heap.size = w.heap.size + 3 := hx3
  have hB0 : Below w.heap.size w w2 := ((Below.refl _ w).alloc (Nat.le_refl _) _).trans (hx4.mono (by omega))
  have bO2 : Boxed w2 w.heap.size 48 (.slice none 0 0) := by rw [← hw2]; exact (bO.alloc _).alloc _
  rw [hw2]
  refine wpIn_rangeFunc_ownG rfl (by decide) (gf := 52) (lb := #[.pointer (some ⟨w.heap.size + 1, 0, none⟩), .pointer (some ⟨w.heap.size + 2, 0, none⟩)]) rfl trivial (enters_of Tryd.func52 (by kernel_rfl) rfl)
    (HSEQ.out w2 hsz hB0 hx1 hx2) KpS.trans (kpS_b (by omega)) (Below.refl _ _) (fun _ => rfl)
    (fun pre W => ((∃ v, Boxed W w.heap.size 48 v ∧ W.ownsRow (w.heap.size + 3) 3 1 v pre.length (ints pre) ∧ (v = .slice none 0 0 ↔ pre = [])) ∧ w.heap.size + 3 ≤ W.heap.size) ∧ Below w.heap.size w W)
    (fun _ _ _ => False)
    (OwnFrom.and (OwnFrom.and (Own.from (holdsRow_own (w.heap.size + 3) w.heap.size 48 3 1 (fun pre => pre.length) (fun pre => ints pre) (fun pre v => v = .slice none 0 0 ↔ pre = [])) _) (fun _ _ _ _ hs hg _ => Nat.le_trans hs hg.size)) (ownFrom_below (Nat.le_refl _) (by omega)))
    (fun _ _ _ _ _ hs _ _ => hs)
    ⟨⟨⟨_, bO2, World.ownsRow_nil _ _ _ _, by simp⟩, by omega⟩, hB0⟩
    (fun x => { tmps := #[.pointer a, undef, .slice none 0 0, .pointer (some ⟨w.heap.size, 0, none⟩), .int .i64 ((x : Nat) : Int), .pointer a, .func (.func 52) #[] #[.pointer (some ⟨w.heap.size + 1, 0, none⟩), .pointer (some ⟨w.heap.size + 2, 0, none⟩)], .int .i64 ((x : Nat) : Int), undef, undef, undef, undef, undef], defers := [] }) ?assign ?body ?done ?stop
  case assign =>
    intro l x W K hK
    gi_wp2
    exact hK
  case body =>
    rintro l pre x W ⟨⟨⟨v, hv, hrow, hnil⟩, hsW⟩, hB⟩ hlt2
    have hc := hv.cell
    gi_wp2_with (gi_at_builtin; refine wpListIn_append_own _ rfl _ _ 48 rfl (w.heap.size + 3) 3 i0 (.int .i64 0) 1 8 Tryd.underlying48 hi hz0 hz1 hz2 rfl (by decide) _ _ _ rfl (hrow.alloc _) ⟨W.heap.size, 0, none⟩ 1 1 [.int .i64 ((x : Nat) : Int)] rfl rfl (cell_one_new _ _ _) (by simp [Value.oneCell']) (by unfold maxLen; omega) (by omega) (by simp; omega) ?_; intro v' w1 hown' hgrow _; obtain ⟨g', cap', rfl⟩ := ownsRow_succ hown'; obtain ⟨hv1, hv2, hr2, hk2, hb2, hkp⟩ := appended2 (n₀ := w.heap.size) hv (by decide) hrow hsW (Nat.le_refl _) (by omega) hown' hgrow; have hc1 := hv1.cell; have hf1 := hv1.frozen)
    exact ⟨hk2.from _, hkp, ⟨⟨_, hv2, by simpa [ints] using hr2, by simp⟩, Nat.le_trans hsW hb2.size⟩, hB.trans hb2⟩
  case done =>
    rintro D ys W hD rfl ⟨⟨⟨v, hv, hrow, hnil⟩, _⟩, hB⟩ hK
    have hc := hv.cell
    gi_wp2
    refine ⟨by simp, .inl ⟨_, _, rfl, run_takeDeferred hK, ?_⟩⟩
    exact ⟨_, results_tmp rfl _ _ _, v, rfl, ownsRow_lower (ownsRow_putObj hrow _ hK rfl) (by omega), hnil, hB.trans (belowK_b (w := w) (Nat.le_refl _) W D _ _ (by omega) hK rfl rfl)⟩
  case stop =>
    rintro D c pre W _ _ h _
    exact h.elim

theorem all_ok (b g m : Nat) (f : Nat → Bool) (w : World) (h : SetW w b g m f) (hT : Tab w) : Calls Tryd.prog 29 #[.pointer (some ⟨b, 0, none⟩)] w (AllV (lst f m) w) := by
  have hlb := h.bt
  have hlg := h.gt
  have hlt := hT.lt
  refine all_of _ (lst f m) (fun pre => pre <+: lst f m) (lst f m).length (by have := lst_len f m; have := h.hi; omega) w fun w2 hsz hB0 hx1 hx2 => ?_
  have hNA : NumAt w2 (· = w.heap.size) (w.heap.size + 3) (w.heap.size + 1) (w.heap.size + 2) b g m f 0 :=
    ⟨h.below hB0, hx1, hx2, hT.below hB0, by omega, by omega, by omega, by omega, by omega, by omega, by omega, by omega, by omega, by omega⟩
  have := numbers_stops 2 (by decide) (w.heap.size + 1) (w.heap.size + 2) (w.heap.size + 3) b g m f 0 _ w2 hNA (by decide) (by omega)
  rwa [from_zero] at this

theorem Inv.below {w w' : World} {v : Option Addr} (h : Inv w v) (hb : Below w.heap.size w w') : Inv w' v := by
  rcases h with rfl | ⟨b, rfl, h⟩
  · exact .inl rfl
  · exact .inr ⟨b, rfl, h.below hb⟩
theorem stops_inv (n : Nat) (hn : 1 ≤ n) (Bs Bf : Nat) (v : Option Addr) (Kp : World → World → Prop) (w : World) (hv : Inv w v) (hbs : w.cell? ⟨Bs, 0, none⟩ = some (.pointer v)) :
    SeqStopsK Fence.wide n Tryd.prog 52 #[.pointer (some ⟨Bs, 0, none⟩), .pointer (some ⟨Bf, 0, none⟩)] (fun x : Nat => #[Value.int .i64 ((x : Nat) : Int)]) Kp (fun ys => ys = []) (fun _ => False) 0 w := fun l J Jx W hW _ _ hY h0 => by
  have hbs2 := (hW.cell (p := ⟨Bs, 0, none⟩) (World.block_lt_of_cell? _ _ hbs)).trans hbs
  have HV := Lib.hid (hv.below hW)
  have H0 := Lib.hid h0
  clear hv hbs h0 hY hW
  refine callsIn_of_wp Tryd.func52 rfl trivial ?_ rfl
  simp only [Tryd.ntmps52, List.size_toArray, List.length_cons, List.length_nil, Nat.reduceAdd, Nat.reduceSub, Array.replicate_succ, Array.replicate_zero, List.push_toArray, List.append_toArray, List.nil_append, List.cons_append]
  gi_wp2_with (refine ⟨trivial, ?_⟩; gi_at_call 38; refine (callsIn_wide.2 (valid_no _ _ HV.out)).mono ?_; rintro e w' ⟨rfl, rfl⟩)
  refine bodyPost_ret (results_none rfl _ _ _) rfl ?_
  exact ⟨⟨_, rfl⟩, .inl ⟨_, rfl, H0.out⟩⟩
theorem all_inv (v : Option Addr) (w : World) (h : Inv w v) : Calls Tryd.prog 29 #[.pointer v] w fun e w' => e = .returned (.slice none 0 0) ∧ Below w.heap.size w w' := by
  refine (all_of v [] (fun _ => False) 0 (by decide) w fun w2 hsz hB0 hx1 hx2 => stops_inv 2 (by decide) _ _ v _ w2 (h.below hB0) hx1).mono ?_
  rintro e w' ⟨u, rfl, _, h2, h3⟩
  rw [h2.2 rfl]
  exact ⟨rfl, h3⟩

/-! ### Next -/
def NextV (L : List Nat) (w : World) (e : Ending) (w' : World) : Prop := e = .returned (.tuple #[.int .i64 ((L.headD 0 : Nat) : Int), .bool !L.isEmpty]) ∧ Below w.heap.size w w'
set_option maxRecDepth 100000 in
set_option maxHeartbeats 2000000 in
theorem next_of (a : Option Addr) (fr : Int) (L : List Nat) (Sp : List Nat → Prop) (N : Nat) (hSp : ∀ pre, Sp pre → pre <+: L) (w : World)
    (hseq : ∀ w2, w2.heap.size = w.heap.size + 4 → Below w.heap.size w w2 → w2.cell? ⟨w.heap.size + 2, 0, none⟩ = some (.pointer a) → w2.cell? ⟨w.heap.size + 3, 0, none⟩ = some (.int .i64 fr) →
      SeqStopsK Fence.wide 2 Tryd.prog 52 #[.pointer (some ⟨w.heap.size + 2, 0, none⟩), .pointer (some ⟨w.heap.size + 3, 0, none⟩)] (fun x : Nat => #[Value.int .i64 ((x : Nat) : Int)]) (KpS (fun _ => False) (w.heap.size + 4)) (fun ys => ys = L) Sp N w2) :
    Calls Tryd.prog 26 #[.pointer a, .int .i64 fr] w (NextV L w) := by
  have HSEQ := Lib.hid hseq
  have HSP := Lib.hid hSp
  clear hseq hSp
  refine (callsIn_wide (n := 3)).1 ?_
  refine callsIn_of_wp_marks Tryd.func26 rfl trivial ?_ rfl
  simp only [Tryd.ntmps26, List.size_toArray, List.length_cons, List.length_nil, Nat.reduceAdd, Nat.reduceSub, Array.replicate_succ, Array.replicate_zero, List.push_toArray, List.append_toArray, List.nil_append, List.cons_append]
  gi_wp2_with (refine ⟨trivial, ?_⟩; gi_at_call 50; refine (callsIn_wide.2 (numbers_ok _ _ _)).mono ?_; rintro e w' ⟨rfl, rfl⟩)
  have bO := Boxed.new w 3 (.int .i64 0)
  have bP := Boxed.new (w.alloc (.cells #[.int .i64 0] 3)) 4 (.bool false)
  rw [World.size_alloc] at bP
  obtain ⟨w2, hw2⟩ : ∃ w2, (((w.alloc (.cells #[.int .i64 0] 3)).alloc (.cells #[.bool false] 4)).alloc (.cells #[.pointer a] 24)).alloc (.cells #[.int .i64 fr] 3) = w2 := ⟨_, rfl⟩
  obtain ⟨hx1, hx2, hx3, hx4⟩ := boxes ((w.alloc (.cells #[.int .i64 0] 3)).alloc (.cells #[.bool false] 4)) _ _ hw2
  rw [World.size_alloc, World.size_alloc] at hx1 hx2 hx3 hx4
  have hsz : w2.heap.size = w.heap.size + 4 := hx3
  have hB0 : Below w.heap.size w w2 := (((Below.refl _ w).alloc (Nat.le_refl _) _).alloc (by simp) _).trans (hx4.mono (by omega))
  have bO2 : Boxed w2 w.heap.size 3 (.int .i64 0) := by rw [← hw2]; exact ((bO.alloc _).alloc _).alloc _
  have bP2 : Boxed w2 (w.heap.size + 1) 4 (.bool false) := by rw [← hw2]; exact (bP.alloc _).alloc _
  rw [hw2]
  refine wpIn_rangeFunc_ownG rfl (by decide) (gf := 52) (lb := #[.pointer (some ⟨w.heap.size + 2, 0, none⟩), .pointer (some ⟨w.heap.size + 3, 0, none⟩)]) rfl trivial (enters_of Tryd.func52 (by kernel_rfl) rfl)
    (HSEQ.out w2 hsz hB0 hx1 hx2) KpS.trans (kpS_b (by omega)) (Below.refl _ _) (fun _ => rfl)
    (fun pre W => (pre = [] ∧ W.cell? ⟨w.heap.size, 0, none⟩ = some (.int .i64 0) ∧ W.frozen? ⟨w.heap.size, 0, none⟩ = false ∧ W.cell? ⟨w.heap.size + 1, 0, none⟩ = some (.bool false) ∧ W.frozen? ⟨w.heap.size + 1, 0, none⟩ = false) ∧ Below w.heap.size w W)
    (fun c pre W => (c = .ret ∧ ∃ x : Nat, pre = [x] ∧ W.cell? ⟨w.heap.size, 0, none⟩ = some (.int .i64 ((x : Nat) : Int)) ∧ W.cell? ⟨w.heap.size + 1, 0, none⟩ = some (.bool true)) ∧ Below w.heap.size w W)
    (OwnFrom.and (Own.from (fun s A B row hs hg hr => ⟨hs.1, cell_kept hs.2.1 hg hr, (frozen_kept hs.2.1 hg hr).trans hs.2.2.1, cell_kept hs.2.2.2.1 hg hr, (frozen_kept hs.2.2.2.1 hg hr).trans hs.2.2.2.2⟩) _) (ownFrom_below (Nat.le_refl _) (by omega)))
    (fun c => OwnFrom.and (Own.from (fun s A B row hs hg hr => by obtain ⟨hc, x, e1, e2, e3⟩ := hs; exact ⟨hc, x, e1, cell_kept e2 hg hr, cell_kept e3 hg hr⟩) _) (ownFrom_below (Nat.le_refl _) (by omega)))
    ⟨⟨rfl, bO2.cell, bO2.frozen, bP2.cell, bP2.frozen⟩, hB0⟩
    (fun x => { tmps := #[.pointer a, .int .i64 fr, undef, undef, .pointer (some ⟨w.heap.size, 0, none⟩), .pointer (some ⟨w.heap.size + 1, 0, none⟩), .int .i64 ((x : Nat) : Int), .pointer a, .int .i64 fr, .func (.func 52) #[] #[.pointer (some ⟨w.heap.size + 2, 0, none⟩), .pointer (some ⟨w.heap.size + 3, 0, none⟩)], .int .i64 ((x : Nat) : Int), undef], defers := [] }) ?assign ?body ?done ?stop
  case assign =>
    intro l x W K hK
    gi_wp2
    exact hK
  case body =>
    rintro l pre x W ⟨⟨rfl, hc, hf, hc2, hf2⟩, hB⟩ _
    gi_wp2
    exact ⟨((KeepsOthers.setCell _ _ _).trans (KeepsOthers.setCell _ _ _)).from _, ⟨rfl, x, rfl, by rw [World.cell?_setCell_other _ _ _ _ (by intro e; injection e with e; omega)]; exact World.cell?_setCell_same' _ _ _ (by rw [hc]; rfl), World.cell?_setCell_same' _ _ _ (by rw [World.cell?_setCell_other _ _ _ _ (by intro e; injection e with e; omega), hc2]; rfl)⟩, (hB.setCell (p := ⟨w.heap.size, 0, none⟩) (Nat.le_refl _) _).setCell (p := ⟨w.heap.size + 1, 0, none⟩) (by simp) _⟩
  case done =>
    rintro D ys W hD rfl ⟨⟨rfl, hc, hf, hc2, hf2⟩, hB⟩ hK
    gi_wp2
    have hK' := ((KeepsOthers.setCell W ⟨w.heap.size, 0, none⟩ (.int .i64 0)).trans (KeepsOthers.setCell _ ⟨w.heap.size + 1, 0, none⟩ (.bool false))).same D _ hK rfl
    have ha := World.cell?_setCell_same' W ⟨w.heap.size, 0, none⟩ (.int .i64 0) (by rw [hc]; rfl)
    have ha2 : ((W.setCell ⟨w.heap.size, 0, none⟩ (.int .i64 0)).setCell ⟨w.heap.size + 1, 0, none⟩ (.bool false)).cell? ⟨w.heap.size, 0, none⟩ = some (.int .i64 0) := by
      rw [World.cell?_setCell_other _ _ _ _ (by intro e; injection e with e; omega)]; exact ha
    have hb : ((W.setCell ⟨w.heap.size, 0, none⟩ (.int .i64 0)).setCell ⟨w.heap.size + 1, 0, none⟩ (.bool false)).cell? ⟨w.heap.size + 1, 0, none⟩ = some (.bool false) :=
      World.cell?_setCell_same' _ _ _ (by rw [World.cell?_setCell_other _ _ _ _ (by intro e; injection e with e; omega), hc2]; rfl)
    have hc5 := cell_kept ha2 (grownBy_putObj' _ D (.deferred none)) (fun r e => by cases e; exact ⟨_, hK', rfl⟩)
    have hc6 := cell_kept hb (grownBy_putObj' _ D (.deferred none)) (fun r e => by cases e; exact ⟨_, hK', rfl⟩)
    refine ⟨by simp, .inl ⟨_, _, rfl, run_takeDeferred hK', ?_⟩⟩
    refine ⟨.tuple #[.int .i64 0, .bool false], ?_, rfl, ((hB.setCell (p := ⟨w.heap.size, 0, none⟩) (Nat.le_refl _) _).setCell (p := ⟨w.heap.size + 1, 0, none⟩) (by simp) _).trans (belowK_b (w := w) (Nat.le_refl _) _ D _ _ (by omega) hK' rfl rfl)⟩
    simp [results, Tryd.f26, go_sem, hc5, hc6]
  case stop =>
    rintro D c pre W hD hpre ⟨⟨rfl, x, rfl, hc, hc2⟩, hB⟩ hK
    have hL := HSP.out _ hpre
    obtain ⟨r, rfl⟩ := hL
    gi_wp2
    have hc5 := cell_kept hc (grownBy_putObj' _ D (.deferred none)) (fun r e => by cases e; exact ⟨_, hK, rfl⟩)
    have hc6 := cell_kept hc2 (grownBy_putObj' _ D (.deferred none)) (fun r e => by cases e; exact ⟨_, hK, rfl⟩)
    refine ⟨by simp, .inl ⟨_, _, rfl, run_takeDeferred hK, ?_⟩⟩
    refine ⟨.tuple #[.int .i64 ((x : Nat) : Int), .bool true], ?_, rfl, hB.trans (belowK_b (w := w) (Nat.le_refl _) W D _ _ (by omega) hK rfl rfl)⟩
    simp [results, Tryd.f26, go_sem, hc5, hc6]
theorem next_ok (b g m : Nat) (f : Nat → Bool) (fr : Int) (hfr : fr ≤ 9223372036854775807) (w : World) (h : SetW w b g m f) (hT : Tab w) : Calls Tryd.prog 26 #[.pointer (some ⟨b, 0, none⟩), .int .i64 fr] w (NextV (from_ f m fr) w) := by
  have hlb := h.bt
  have hlg := h.gt
  have hlt := hT.lt
  refine next_of _ fr (from_ f m fr) (fun pre => pre <+: from_ f m fr) (from_ f m fr).length (fun _ h => h) w fun w2 hsz hB0 hx1 hx2 => ?_
  exact numbers_stops 2 (by decide) (w.heap.size + 2) (w.heap.size + 3) (w.heap.size + 4) b g m f fr _ w2 ⟨h.below hB0, hx1, hx2, hT.below hB0, by omega, by omega, by omega, by omega, by omega, id, id, id, id, id⟩ hfr (by omega)
theorem next_inv (v : Option Addr) (fr : Int) (w : World) (h : Inv w v) : Calls Tryd.prog 26 #[.pointer v, .int .i64 fr] w (NextV [] w) :=
  next_of v fr [] (fun _ => False) 0 (fun _ h => h.elim) w fun w2 hsz hB0 hx1 hx2 => stops_inv 2 (by decide) _ _ v _ w2 (h.below hB0) hx1
end Go.Proofs.YtaenemdclmnnaaaDoor
