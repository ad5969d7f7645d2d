/- The contract of the program's Due. -/
import Derived.Test.YtlnjgbdekcgmpaaEi
namespace Go.Proofs.Ytlnjgbdekcgmpaa
open Go.RowKit Go.Shelf
attribute [local go_sem] Oper.semAt_some

theorem info_int : (Try.prog.info? 3).map (fun i => (i.zero, i.size, i.bytes)) = some (some (.int .i64 0), 1, 8) := by kernel_rfl
theorem cut_same {F : Fence} {n : Nat} {P : Program} {c : Code} {Q : Exit → Act → World → Prop} {a : Act} {w : World} (R : Act → World → Prop) (hq : Q (.exit 0) = Q .normal)
    (h2 : c.wpIn F n P (fun e a' W => (e = .normal ∨ e = .exit 0) ∧ R a' W) a w) (h1 : ∀ a' W, R a' W → Q .normal a' W) : c.wpIn F n P Q a w :=
  Code.wpIn_mono (fun e a' W ⟨he, hR⟩ => by
    rcases he with rfl | rfl
    · exact h1 a' W hR
    · rw [hq]; exact h1 a' W hR) h2

theorem appended2 {W w1 : World} {n₀ n₁ B : Nat} {t e : TypeId} {size : Nat} {v v' : Value} {k m : Nat} {xs ys : List Value} {tmp : Obj}
    (hv : Boxed W B t v) (hte : t ≠ e) (hrow : W.ownsRow n₁ e size v k xs) (hn₁ : n₁ ≤ W.heap.size) (hB : n₀ ≤ B) (h01 : n₀ ≤ n₁)
    (hown' : w1.ownsRow n₁ e size v' m ys) (hgrow : (W.alloc tmp).grownBy w1 v.ownBlock) :
    Boxed w1 B t v ∧ Boxed (w1.setCell ⟨B, 0, none⟩ v') B t v' ∧ (w1.setCell ⟨B, 0, none⟩ v').ownsRow n₁ e size v' m ys ∧ KeepsOthers W (w1.setCell ⟨B, 0, none⟩ v') ∧ Below n₀ W (w1.setCell ⟨B, 0, none⟩ v') ∧ KpS (· = B) n₁ W (w1.setCell ⟨B, 0, none⟩ v') := by
  have hv1 : Boxed w1 B t v := (hv.alloc tmp).kept hgrow (hv.not_row hte hrow)
  have hge : ∀ j, v.ownBlock = some j → n₁ ≤ j := fun j ej => (hrow.lt j ej).1
  refine ⟨hv1, hv1.set v', hown'.kept (grownBy_setCell' w1 B v') (.inr (hv1.not_row hte hown').symm), ?_, ?_, ?_⟩
  · refine ((KeepsOthers.alloc W tmp).trans (KeepsOthers.of_grownBy hgrow fun j o ej hj => ?_)).trans (KeepsOthers.setCell _ _ _)
    rcases (hrow.alloc tmp).2 with ⟨rfl, _⟩ | ⟨g, cap, cur, rfl, _, hgb, _⟩
    · simp [Value.ownBlock] at ej
    · obtain rfl : g = j := by simpa [Value.ownBlock] using ej
      rw [hgb] at hj; cases hj; rfl
  · exact (((Below.refl n₀ W).alloc (by omega) tmp).grown hgrow (by simp; omega) fun j ej => by have := hge j ej; omega).setCell (p := ⟨B, 0, none⟩) hB v'
  · intro j hj hx
    rw [Below.heap_setCell _ _ _ _ hx, hgrow.block j (by simp; omega) (fun e => by have := hge j e.symm; omega)]
    exact Below.heap_alloc _ _ _ (by omega)
theorem Boxed.bk {W : World} {B : Nat} {t : TypeId} {v : Value} (h : Bk W B t #[v]) : Boxed W B t v := h

/-- While the ids that have expired are gathered. -/
def DueI (w : World) (now : Int) (pre : List En) (W : World) : Prop :=
  (∃ v, Boxed W (w.heap.size + 1) 34 v ∧ W.ownsRow (w.heap.size + 3) 3 1 v pre.length (ints (ids pre)) ∧ True) ∧ w.heap.size + 3 ≤ W.heap.size ∧ Bk W w.heap.size 2 #[.int .i64 now] ∧ (∀ x ∈ pre, x.2 ≤ now) ∧ Below w.heap.size w W
def DueX (w : World) (now : Int) (c : Code) (pre : List En) (W : World) : Prop := c = .exit 0 ∧ ∃ (p : List En) (x : En), pre = p ++ [x] ∧ now < x.2 ∧ DueI w now p W
theorem DueI.own {w : World} {now : Int} {n₀ : Nat} (hn : w.heap.size ≤ n₀) {s : List En} {A B : World} {row : Option Nat} (hs : DueI w now s A) (hg : A.grownBy B row) (hr : ∀ r, row = some r → n₀ ≤ r ∧ ∃ o, A.heap[r]? = some o ∧ o.isCells = false) : DueI w now s B := by
  obtain ⟨h1, h2, h3, h4, h5⟩ := hs
  refine ⟨?_, Nat.le_trans h2 hg.size, h3.grown hg fun r e => (hr r e).2, h4, ownFrom_below (β := Unit) (Nat.le_refl _) hn () A B row h5 hg hr⟩
  exact Own.from (holdsRow_own (w.heap.size + 3) (w.heap.size + 1) 34 3 1 (fun (pre : List En) => pre.length) (fun pre => ints (ids pre)) (fun _ _ => True)) _ s A B row h1 hg hr

theorem due_all {L : List En} {now : Int} (h : ∀ x ∈ L, x.2 ≤ now) : due L now = L := by unfold due; rw [List.filter_eq_self]; intro x hx; simpa using h x hx
theorem due_pre {L p r : List En} {x : En} {now : Int} (hs : Srt L) (e : L = p ++ [x] ++ r) (hp : ∀ y ∈ p, y.2 ≤ now) (hx : now < x.2) : due L now = p := by
  subst e
  have hxr : ∀ y ∈ r, now < y.2 := fun y hy => by
    have := (List.pairwise_append.1 hs).2.2 x (by simp) y hy
    rw [lt_iff] at this; omega
  unfold due
  rw [List.filter_append, List.filter_append, List.filter_eq_self.2 (by simpa using hp)]
  have e1 : ([x].filter fun e => decide (e.2 ≤ now)) = [] := by simp; omega
  have e2 : (r.filter fun e => decide (e.2 ≤ now)) = [] := by rw [List.filter_eq_nil_iff]; intro y hy; have := hxr y hy; simp; omega
  rw [e1, e2]; simp

def DueV (St : World → Nat → World → Prop) (l : List Int) (w : World) (e : Ending) (w' : World) : Prop :=
  ∃ v W0 W1 D, e = .returned v ∧ w'.ownsRow w.heap.size 3 1 v l.length (ints l) ∧ (∀ g, v.ownBlock = some g → w.heap.size ≤ g ∧ g < W0.heap.size) ∧ Below w.heap.size w W0 ∧ St W0 l.length W1 ∧ w.heap.size ≤ D ∧ W1.heap[D]? = some (.deferred (some [])) ∧ w' = W1.putObj D (.deferred none)
theorem take_snoc_ids {p : List En} {x : En} : ints (ids (p ++ [x])) = ints (ids p) ++ [.int .i64 x.1] := by simp [ints, ids]

set_option maxRecDepth 100000 in
set_option maxHeartbeats 4000000 in
theorem due_of (a : Option Addr) (now : Int) (L : List En) (hs : Srt L) (Sp : List En → Prop) (N : Nat) (hN : N ≤ 256) (hSp : ∀ pre, Sp pre → pre <+: L) (w : World)
    (hseq : ∀ w2, w2.heap.size = w.heap.size + 3 → Below w.heap.size w w2 → w2.cell? ⟨w.heap.size + 2, 0, none⟩ = some (.pointer a) →
      SeqStopsK Fence.wide 2 Try.prog 42 #[.pointer (some ⟨w.heap.size + 2, 0, none⟩)] encE (KpS (· = w.heap.size + 1) (w.heap.size + 3)) (fun ys => ys = L) Sp N w2)
    (St : World → Nat → World → Prop) (hst0 : ∀ W, Below w.heap.size w W → St W 0 W) (hkeep : ∀ W0 j W, St W0 j W → Kept (fun g => g < w.heap.size) W0 W) (hlen : (due L now).length ≤ 256)
    (hstep : ∀ W0 j W x, St W0 j W → (ids (due L now))[j]? = some x → ∃ b k, a = some ⟨b, 0, none⟩ ∧ W.cell? ⟨b, 0, none⟩ = some (.pointer (some ⟨k, 0, none⟩)) ∧ Calls Try.prog 34 #[.pointer (some ⟨k, 0, none⟩), .int .i64 x] W fun e W' => e = .returned (.tuple #[]) ∧ St W0 (j + 1) W') :
    Calls Try.prog 19 #[.pointer a, .int .i64 now] w (DueV St (ids (due L now)) w) := by
  obtain ⟨i0, hi, hz0, hz1, hz2⟩ := info_parts info_int
  have HSEQ := Lib.hid hseq
  have HSP := Lib.hid hSp
  have HST0 := Lib.hid hst0
  have HKEEP := Lib.hid hkeep
  have HSTEP := Lib.hid hstep
  have HS := Lib.hid hs
  have HLEN := Lib.hid hlen
  clear hseq hSp hst0 hkeep hstep hs hlen
  refine (callsIn_wide (n := 3)).1 ?_
  refine callsIn_of_wp_marks Try.func19 rfl trivial ?_ rfl
  simp only [Try.ntmps19, List.size_toArray, List.length_cons, List.length_nil, Nat.reduceAdd, Nat.reduceSub, Array.replicate_succ, Array.replicate_zero, List.push_toArray, List.append_toArray, List.nil_append, List.cons_append]
  gi_wp2_with (refine ⟨trivial, ?_⟩; gi_at_call 36; refine (callsIn_wide.2 (all_ok _ _)).mono ?_; rintro e w' ⟨rfl, rfl⟩)
  obtain ⟨w2, hw2⟩ : ∃ w2, ((w.alloc (.cells #[.int .i64 now] 2)).alloc (.cells #[.slice none 0 0] 34)).alloc (.cells #[.pointer a] 24) = w2 := ⟨_, rfl⟩
  have b1 := Bk.new w 2 #[.int .i64 now]
  have b2 := Bk.new (w.alloc (.cells #[.int .i64 now] 2)) 34 #[.slice none 0 0]
  have b3 := Bk.new ((w.alloc (.cells #[.int .i64 now] 2)).alloc (.cells #[.slice none 0 0] 34)) 24 #[.pointer a]
  simp only [World.size_alloc] at b2 b3
  have k1 : Bk w2 w.heap.size 2 #[.int .i64 now] := by rw [← hw2]; exact (b1.up _).up _
  have k2 : Bk w2 (w.heap.size + 1) 34 #[.slice none 0 0] := by rw [← hw2]; exact b2.up _
  have hx : w2.cell? ⟨w.heap.size + 2, 0, none⟩ = some (.pointer a) := by rw [← hw2]; exact b3.cell 0
  have hsz : w2.heap.size = w.heap.size + 3 := by rw [← hw2]; simp
  have hB0 : Below w.heap.size w w2 := by rw [← hw2]; exact (((Below.refl _ w).alloc (Nat.le_refl _) _).alloc (by simp) _).alloc (by simp; omega) _
  rw [hw2]
  clear hw2 b1 b2 b3
  refine cut_same (fun a' W => ∃ D, w.heap.size + 3 ≤ D ∧ W.heap[D]? = some (.deferred (some [])) ∧ DueI w now (due L now) W ∧ a' = { tmps := #[.pointer a, .int .i64 now, undef, .pointer (some ⟨w.heap.size, 0, none⟩), .slice none 0 0, .pointer (some ⟨w.heap.size + 1, 0, none⟩), undef, undef, undef, undef, .pointer a, .func (.func 42) #[] #[.pointer (some ⟨w.heap.size + 2, 0, none⟩)], undef, undef, undef, undef, undef, undef, undef, undef, undef, undef, undef, undef, undef, undef, undef, undef, undef, undef, undef, undef, undef, undef, undef], defers := [{ target := .collected D, args := #[] }] }) rfl ?loop ?after
  case loop =>
    refine wpIn_rangeFunc_ownG rfl (by decide) (gf := 42) (lb := #[.pointer (some ⟨w.heap.size + 2, 0, none⟩)]) rfl trivial (enters_of Try.func42 (by kernel_rfl) rfl)
      (HSEQ.out w2 hsz hB0 hx) KpS.trans (kpS_b (by omega)) (Below.refl _ _) (fun _ => rfl)
      (DueI w now) (DueX w now)
      (fun s A B row hs hg hr => DueI.own (by omega) hs hg hr)
      (fun c s A B row hs hg hr => by
        obtain ⟨h0, p, x, h1, h2, h3⟩ := hs
        exact ⟨h0, p, x, h1, h2, DueI.own (by omega) h3 hg hr⟩)
      ⟨⟨_, k2, World.ownsRow_nil _ _ _ _, trivial⟩, by omega, k1, (fun _ h => by cases h), hB0⟩
      (fun x => { tmps := #[.pointer a, .int .i64 now, undef, .pointer (some ⟨w.heap.size, 0, none⟩), .slice none 0 0, .pointer (some ⟨w.heap.size + 1, 0, none⟩), .int .i64 x.1, .int .i64 x.2, undef, undef, .pointer a, .func (.func 42) #[] #[.pointer (some ⟨w.heap.size + 2, 0, none⟩)], .int .i64 x.1, .int .i64 x.2, undef, undef, undef, undef, undef, undef, undef, undef, undef, undef, undef, undef, undef, undef, undef, undef, undef, undef, undef, undef, undef], defers := [] }) ?assign ?body ?done ?stop
    case assign =>
      intro l x W K hK
      unfold encE
      gi_wp2
      exact hK
    case body =>
      rintro l pre x W hI hlt2
      obtain ⟨⟨v, hv, hrow, _⟩, hsW, hnow, hpre, hB⟩ := id hI
      have cn := hnow.cell 0
      simp only [List.getElem?_toArray, List.getElem?_cons_zero] at cn
      have HI := Lib.hid hI
      have HPRE := Lib.hid hpre
      have HNOW := Lib.hid hnow
      clear hI hpre hnow
      by_cases hxn : now < x.2
      · gi_wp2
        exact ⟨(KeepsOthers.refl _).from _, rfl, pre, x, rfl, hxn, HI.out⟩
      · have hc := hv.cell
        gi_wp2_with (gi_at_builtin; refine wpListIn_append_own _ rfl _ _ 34 rfl (w.heap.size + 3) 3 i0 (.int .i64 0) 1 8 Try.underlying34 hi hz0 hz1 hz2 rfl (by decide) _ _ _ rfl (hrow.alloc _) ⟨W.heap.size, 0, none⟩ 1 1 [.int .i64 x.1] rfl rfl (cell_one_new _ _ _) (by simp [Value.oneCell']) (by unfold maxLen; omega) (by omega) (by simp; omega) ?_; intro v' w1 hown' hgrow _; obtain ⟨g', cap', rfl⟩ := ownsRow_succ hown'; obtain ⟨hv1, hv2, hr2, hk2, hb2, hkp⟩ := appended2 (n₀ := w.heap.size) hv (by decide) hrow hsW (by omega) (by omega) hown' hgrow; have hc1 := hv1.cell; have hf1 := hv1.frozen)
        refine ⟨hk2.from _, hkp, ⟨_, hv2, by rw [take_snoc_ids, List.length_append]; exact hr2, trivial⟩, Nat.le_trans hsW hb2.size, HNOW.out.same (hkp _ (by omega) (by omega)), ?_, hB.trans hb2⟩
        intro y hy
        rcases List.mem_append.1 hy with h | h
        · exact HPRE.out y h
        · rw [List.mem_singleton.1 h]; omega
    case done =>
      rintro D ys W hD rfl hI hK
      have hD2 : w.heap.size + 3 ≤ D := by omega
      exact ⟨.inl rfl, D, hD2, hK, by rw [due_all hI.2.2.2.1]; exact hI, rfl⟩
    case stop =>
      rintro D c pre W hD hpre ⟨rfl, p, x, rfl, hx2, hI⟩ hK
      obtain ⟨r, hr⟩ := HSP.out _ hpre
      have hD2 : w.heap.size + 3 ≤ D := by omega
      gi_wp2
      exact ⟨D, hD2, hK, by rw [due_pre HS.out hr.symm hI.2.2.2.1 hx2]; exact hI, rfl⟩
  case after =>
    rintro _ W ⟨D, hD, hK, ⟨⟨v, hv, hrow, _⟩, hsW, _, _, hB⟩, rfl⟩
    clear HSEQ HSP HS k1 k2 hx hsz hB0
    have HS0 := Lib.hid (HST0.out W hB)
    have HB := Lib.hid hB
    rw [show (due L now).length = (ids (due L now)).length from (ids_length _).symm] at hrow HLEN
    generalize ids (due L now) = xs at *
    obtain ⟨g0, n0, c0, rfl⟩ := own_slice hrow
    obtain ⟨rfl, hlc, hc63⟩ : n0 = xs.length ∧ xs.length ≤ c0 ∧ c0 ≤ 9223372036854775807 := by
      obtain ⟨a', c', e1, h1, h2, _⟩ := Rd.len (Rd.of_own hrow)
      injection e1 with e1 e2 e3
      exact ⟨e2, by omega, by omega⟩
    have hc := hv.cell
    have HV := Lib.hid hv
    have HROW := Lib.hid hrow
    have hDl := (Array.getElem?_eq_some_iff.1 hK).1
    have HK := Lib.hid hK
    have hlen := HLEN.out
    clear hB hv hrow hK HLEN HST0
    obtain ⟨nn, hnn⟩ : ∃ nn, xs.length = nn := ⟨_, rfl⟩
    have HNN := Lib.hid hnn
    rw [hnn] at hlc hc hlen HV HROW
    have HLT : Hid (∀ g, (Value.slice g0 nn c0).ownBlock = some g → w.heap.size ≤ g ∧ g < W.heap.size) := fun g hg => ⟨by have := (HROW.out.lt g hg).1; omega, (HROW.out.lt g hg).2⟩
    have HROWR : Hid (∀ W', Kept (fun g => g < w.heap.size) W W' → W'.ownsRow (w.heap.size + 3) 3 1 (.slice g0 nn c0) nn (ints xs) ∧ Boxed W' (w.heap.size + 1) 34 (.slice g0 nn c0) ∧ W'.heap[D]? = some (.deferred (some []))) := fun W' hk =>
      ⟨own_same HROW.out fun g hg => hk.block g (HROW.out.lt g hg).2 (by have := (HROW.out.lt g hg).1; omega), (hk.block _ (show Bk W _ 34 #[.slice g0 nn c0] from HV.out).lt (by omega)).trans HV.out, (hk.block D hDl (by omega)).trans HK.out⟩
    clear hnn HV HROW HK
    dsimp only
    gi_wp2
    clear hc
    gi_loopw [23] (fun i wr => ∃ j : Nat, j ≤ nn ∧ i = .int .i64 j ∧ Hid (St W j wr)) (fun i _ => nn - (intOf i).toNat)
    case atStart => exact ⟨0, Nat.zero_le _, rfl, HS0.out⟩
    case round =>
      obtain ⟨j, hj, rfl, HSt⟩ := hrel
      by_cases hlt : j < nn
      · obtain ⟨x, hx⟩ : ∃ x, xs[j]? = some x := ⟨_, List.getElem?_eq_getElem (by rw [HNN.out]; exact hlt)⟩
        obtain ⟨b, k, rfl, hcb, htk⟩ := HSTEP.out W j wr x HSt.out hx
        obtain ⟨hr1, _, _⟩ := HROWR.out wr (HKEEP.out _ _ _ HSt.out)
        obtain ⟨gb, rfl, hcell⟩ : ∃ gb, g0 = some ⟨gb, 0, none⟩ ∧ wr.cell? ⟨gb, j, none⟩ = some (.int .i64 x) := by
          rw [← HNN.out] at hr1
          rcases hr1.2 with ⟨e, h0⟩ | ⟨g, cap, cur, e, _⟩
          · have := (List.getElem?_eq_some_iff.1 hx).1; omega
          · injection e with e1 e2 e3
            subst e1 e3
            obtain ⟨_, _, _, _, _, _, hcc⟩ := own_cell hr1
            exact ⟨g, rfl, hcc j x hx⟩
        have HTK := Lib.hid htk
        clear htk hx hr1
        gi_wp2_with (refine ⟨trivial, ?_⟩; gi_at_call 34; refine (callsIn_wide.2 HTK.out).mono ?_; rintro e w5 ⟨rfl, hs5⟩; have HS5 := Lib.hid hs5; clear hs5)
        go_roundw
        case rel => exact ⟨j + 1, by omega, by go_num, HS5.out⟩
        case measure => simp [intOf]; omega
      · obtain rfl : j = nn := by omega
        obtain ⟨hr1, hv1, hk1⟩ := HROWR.out wr (HKEEP.out _ _ _ HSt.out)
        have hc := hv1.cell
        have HR1 := Lib.hid hr1
        have HK1 := Lib.hid hk1
        clear hr1 hv1 hk1
        gi_wp2
        refine ⟨by simp, .inl ⟨_, _, rfl, run_takeDeferred HK1.out, ?_⟩⟩
        refine ⟨_, results_tmp rfl _ _ _, _, W, wr, D, rfl, ?_, ?_, HB.out, by rw [HNN.out]; exact HSt.out, by omega, HK1.out, rfl⟩
        · rw [HNN.out]
          exact own_lower (ownsRow_putObj HR1.out _ HK1.out rfl) (by omega)
        · exact HLT.out
end Go.Proofs.Ytlnjgbdekcgmpaa
