/- The contracts of the document's Due and Copy. -/
import Derived.Test.YtlnjgbdekcgmpaaEz
namespace Go.Proofs.Ytlnjgbdekcgmpaa
open Go.RowKit

theorem due_cut {pre M : List En} {now : Int} (hs : Srt (pre ++ M)) (h1 : ∀ y ∈ pre, y.2 ≤ now) (h2 : ∀ y N, M = y :: N → now < y.2) : due (pre ++ M) now = pre ∧ rest (pre ++ M) now = M := by
  have hM : ∀ y ∈ M, now < y.2 := by
    cases M with
    | nil => intro y hy; cases hy
    | cons x N =>
      intro y hy
      have hx := h2 x N rfl
      rcases List.mem_cons.1 hy with rfl | hy
      · exact hx
      · have := (List.pairwise_cons.1 (List.pairwise_append.1 hs).2.1).1 y hy
        rw [lt_iff] at this; omega
  unfold due rest
  rw [List.filter_append, List.filter_append, List.filter_eq_self.2 (by simpa using h1), List.filter_eq_nil_iff.2 (by intro y hy; have := hM y hy; simp; omega), List.filter_eq_nil_iff.2 (by intro y hy; have := h1 y hy; simp; omega), List.filter_eq_self.2 (by intro y hy; have := hM y hy; simp; omega)]
  simp

def lenV : Value → Nat
  | .slice _ n _ => n
  | _ => 0
/-- One int more behind a slice of one's own. -/
theorem app_int {W : World} {base x n : Nat} {a : Option Addr} {c : Nat} {l : List Int} {y : Int} (hn : l.length = n) (ho : W.ownsRow base 3 1 (.slice a n c) l.length (ints l)) (hx : Bk W x 3 #[.int .i64 y]) (hl : l.length ≤ 1000) (hb : base ≤ W.heap.size) :
    ∃ a' c' W', (Builtin.append_ #[34, 34] 34 #[.slice a n c, .slice (some ⟨x, 0, none⟩) 1 1]).run Try.prog W = .ok (.slice a' (n + 1) c') W' ∧ W'.ownsRow base 3 1 (.slice a' (n + 1) c') (l ++ [y]).length (ints (l ++ [y])) ∧ Kept (fun g => (Value.slice a n c).ownBlock = some g) W W' ∧ ((Value.slice a' (n + 1) c').ownBlock = (Value.slice a n c).ownBlock ∨ (Value.slice a' (n + 1) c').ownBlock = some W.heap.size) := by
  subst hn
  obtain ⟨i0, hi, hz0, hz1, hz2⟩ := info_parts info_int
  obtain ⟨v', W', hr, hown, hgr, _, hat⟩ := run_append_own_at (P := Try.prog) W base 34 34 3 i0 _ 1 8 Try.underlying34 hi hz0 hz1 hz2 rfl (by decide) (.slice a l.length c) l.length (ints l) ho ⟨x, 0, none⟩ 1 1 [.int .i64 y] rfl (fun j u hj => by
    rcases j with _ | j
    · exact (hx.cell 0).trans hj
    · simp at hj) (ints_one [y]) (by unfold maxLen; omega) (by omega) hb
  have e1 : (l ++ [y]).length = l.length + 1 := by simp
  have ho2 : W'.ownsRow base 3 1 v' (l ++ [y]).length (ints (l ++ [y])) := by rw [e1, ints_append]; exact hown
  obtain ⟨a', c', rfl, _⟩ := (Rd.of_own ho2).len
  rw [e1] at hr ho2 hat
  exact ⟨a', c', W', hr, by rw [e1]; exact ho2, ⟨hgr.os, hgr.tape, hgr.output, hgr.size, fun k hk hs => hgr.block k hk fun e => hs e.symm⟩, hat⟩

/-- The new row, stored. -/
theorem stored {w W : World} {b : Nat} {v u : Value} {L M : List En} (h : RqW w b v L) (hB : Below w.heap.size w W) (ho : W.ownsRow w.heap.size 63 2 u M.length (cl2 M)) (hr : ∀ e ∈ M, I64 e.1 ∧ I64 e.2) (hl : M.length ≤ 256) : RqW (W.setCell ⟨b, 1, none⟩ u) b u M ∧ Kept (· = b) w (W.setCell ⟨b, 1, none⟩ u) := by
  have hb := h.hb.below hB
  have hlt := h.hb.lt
  have hub : u.ownBlock ≠ some b := fun e => by have := (ho.lt b e).1; omega
  exact ⟨⟨hb.put 1 u, own_lower (own_same ho fun g hg => Below.heap_setCell _ _ _ _ (by rintro rfl; exact hub hg)) (Nat.zero_le _), hr, hl⟩, (Kept.of_below (S := (· = b)) hB).put (p := ⟨b, 1, none⟩) (.inr rfl) u⟩
/-- The document's queue while its first entries are taken off. -/
def RDue (w : World) (b : Nat) (v : Value) (o : Option Nat) (M : List En) (wr : World) : Prop := ∃ v', RqW wr b v' M ∧ Kept (· = b) w wr ∧ (∀ g, v'.ownBlock = some g → v.ownBlock = some g ∨ w.heap.size ≤ g) ∧ ∀ g, v'.ownBlock = some g → o ≠ some g
/-- What Due returns when it ends. -/
def DueE (w : World) (b : Nat) (v : Value) (L : List En) (now : Int) (e : Ending) (w' : World) : Prop := ∃ a c, e = .returned (.slice a (due L now).length c) ∧ Rd w' (.slice a (due L now).length c) (ids (due L now)) ∧ (due L now).length ≤ c ∧ c ≤ 9223372036854775807 ∧ RPost b v (rest L now) w w'
theorem due_end {w wr : World} {b n : Nat} {v : Value} {L pre M : List En} {now : Int} {a : Option Addr} {c : Nat} {o : Option Nat} (hs : Srt L) (hn : pre.length = n) (hL : L = pre ++ M) (hp : ∀ y ∈ pre, y.2 ≤ now) (hM : ∀ y N, M = y :: N → now < y.2) (ho : wr.ownsRow w.heap.size 3 1 (.slice a n c) pre.length (ints (ids pre))) (hr : RDue w b v o M wr) : DueE w b v L now (.returned (.slice a n c)) wr := by
  subst hn hL
  obtain ⟨e1, e2⟩ := due_cut hs hp hM
  unfold DueE
  rw [e1, e2]
  obtain ⟨v', h1, h2, h3, _⟩ := hr
  have ho2 : wr.ownsRow w.heap.size 3 1 (.slice a pre.length c) (ids pre).length (ints (ids pre)) := by rw [ids_length]; exact ho
  obtain ⟨a', c', e, k1, k2, k3⟩ := (Rd.of_own ho2).len
  injection e with q1 q2 q3
  subst q1 q3
  rw [ids_length] at k1 k3
  exact ⟨a, c, rfl, k3, k1, k2, v', h1, h2, h3⟩
set_option maxHeartbeats 4000000 in
set_option maxRecDepth 1000000 in
theorem rdue_ok (b : Nat) (v : Value) (L : List En) (now : Int) (w : World) (hs : Srt L) (h : RqW w b v L) : Calls Try.prog 20 #[.pointer (some ⟨b, 0, none⟩), .int .i64 now] w (DueE w b v L now) := by
  have HS := Lib.hid hs
  have H0 : Hid (RDue w b v none L w) := ⟨v, h, Kept.refl _ _, fun g hg => .inl hg, fun g _ e => by cases e⟩
  have hl := h.len
  have VA : Hid (∀ W M v', RqW W b v' M → Calls Try.prog 32 #[.pointer (some ⟨b, 0, none⟩)] W fun e w' => e = .returned (.bool true) ∧ W = w') := fun W M v' hq => rvalid_ok b v' M W hq
  clear h hs
  go_enter Try.func20, Try.ntmps20
  go_wp2
  go_loopw [5] (fun u wr => ∃ (pre M : List En) (n : Nat) (a : Option Addr) (c : Nat), u = .slice a n c ∧ n ≤ 256 ∧ Hid (pre.length = n) ∧ Hid (L = pre ++ M) ∧ Hid (∀ y ∈ pre, y.2 ≤ now) ∧ Hid (wr.ownsRow w.heap.size 3 1 (.slice a n c) pre.length (ints (ids pre))) ∧ Hid (RDue w b v (Value.slice a n c).ownBlock M wr)) (fun u _ => L.length - lenV u)
  case atStart => exact ⟨[], L, 0, none, 0, rfl, by omega, rfl, rfl, (fun y hy => by cases hy), World.ownsRow_nil _ _ _ _, H0.out⟩
  case round =>
    obtain ⟨pre, M, n, a, c, rfl, hn, HN, HL, HP, HO, HR⟩ := hrel
    obtain ⟨v', hq, hk, hv, hap⟩ := HR.out
    have HQ := Lib.hid (And.intro hq (And.intro hk (And.intro hv hap)))
    obtain ⟨av, cv, rfl, hc1, hc2, hac, hcell⟩ := hq.form
    have hcv := hq.c1
    have hcm : cv ≤ 9223372036854775807 := by unfold maxLen at hc2; omega
    have hl2 := hq.len
    have VB := Lib.hid (VA.out wr M _ hq)
    clear hq hk hv hap hac hc2
    cases M with
    | nil =>
      clear hcell
      go_wp2_with (go_at_call 32; refine VB.out.mono ?_; rintro e w' ⟨rfl, rfl⟩)
      go_ret
      exact due_end HS.out HN.out HL.out HP.out (fun y N e => by cases e) HO.out HR.out
    | cons x M =>
      obtain ⟨g, rfl, k1, k2⟩ := hcell 0 x rfl
      obtain ⟨m, hm⟩ : ∃ m, (x :: M).length = m := ⟨_, rfl⟩
      have HM := Lib.hid hm
      rw [hm] at hcv hc1 hl2
      have hm1 : 0 < m := by simp at hm; omega
      clear hcell hm
      obtain ⟨x1, x2⟩ := x
      simp only [Nat.zero_mul, Nat.zero_add] at k1 k2
      by_cases hx : x2 ≤ now
      · obtain ⟨w1, hw1⟩ : ∃ w1, wr.alloc (.cells #[.int .i64 x1] 3) = w1 := ⟨_, rfl⟩
        have hA : Below wr.heap.size wr w1 := by rw [← hw1]; exact (Below.refl _ _).alloc (Nat.le_refl _) _
        have hx1 : Bk w1 wr.heap.size 3 #[.int .i64 x1] := by rw [← hw1]; exact Bk.new _ _ _
        have hbase : w.heap.size ≤ w1.heap.size := Nat.le_trans HQ.out.2.1.size hA.size
        obtain ⟨a2, c2, w2, hr8, ho8, hk8, hat8⟩ := app_int (l := ids pre) (n := n) (by rw [ids_length]; exact HN.out) (by rw [ids_length]; exact own_below HO.out hA) hx1 (by rw [ids_length, HN.out]; omega) hbase
        have hob : ∀ g', (Value.slice a n c).ownBlock = some g' → w.heap.size ≤ g' ∧ g' < w1.heap.size := fun g' hg => ⟨(HO.out.lt g' hg).1, Nat.lt_of_lt_of_le (HO.out.lt g' hg).2 hA.size⟩
        have hbw : b < w.heap.size := by obtain ⟨v0, h0, _⟩ := H0.out; exact h0.hb.lt
        have hq2 : RqW w2 b (.slice (some ⟨g, 0, none⟩) ((x1, x2) :: M).length cv) ((x1, x2) :: M) := (HQ.out.1.below hA).kept hk8 fun g' hg e => by
          rcases hg with rfl | hg
          · have := (hob _ e).1; omega
          · exact HQ.out.2.2.2 g' hg e
        obtain ⟨w3, hw3⟩ : ∃ w3, w2.alloc (.cells #[] 63) = w3 := ⟨_, rfl⟩
        have hA3 : Below w2.heap.size w2 w3 := by rw [← hw3]; exact (Below.refl _ _).alloc (Nat.le_refl _) _
        have ho3 : w3.ownsRow w2.heap.size 63 2 (.slice (some ⟨w2.heap.size, 0, none⟩) 0 0) ([] : List En).length (cl2 []) := by rw [← hw3]; exact World.ownsRow_lit w2 #[] 0 (Nat.le_refl _) (by decide) rfl
        have hc3 := (hq2.below hA3).c1
        rw [HM.out] at hc3
        have hRD := rd_drop (hq2.below hA3) 1 (by rw [HM.out]; exact hm1)
        rw [HM.out] at hRD
        have R9 : ∀ a70 n70 c70, RdN w3 a70 n70 c70 M → ∃ a9 n9 c9 w4, (Builtin.append_ #[58, 58] 58 #[.slice (some ⟨w2.heap.size, 0, none⟩) 0 0, .slice a70 n70 c70]).run Try.prog w3 = .ok (.slice a9 n9 c9) w4 ∧ w4.frozen? ⟨b, 1, none⟩ = false ∧ w4.cell? ⟨b, 1, none⟩ = some (.slice (some ⟨g, 0, none⟩) m cv) ∧ Hid (RDue w b v (Value.slice a2 (n + 1) c2).ownBlock M (w4.setCell ⟨b, 1, none⟩ (.slice a9 n9 c9)) ∧ (w4.setCell ⟨b, 1, none⟩ (.slice a9 n9 c9)).ownsRow w.heap.size 3 1 (.slice a2 (n + 1) c2) (pre ++ [(x1, x2)]).length (ints (ids (pre ++ [(x1, x2)])))) := fun a70 n70 c70 hRD => by
          obtain ⟨a9, n9, c9, w4, hr9, ho9, hk9, _⟩ := app_w (L := []) (M := M) ho3 hRD (by have := HM.out; simp only [List.length_cons, List.length_nil] at this ⊢; omega) hA3.size
          have hB4 : Below w2.heap.size w2 w4 := hA3.trans (hk9.below hA3.size fun k e => (ho3.lt k e).1)
          have hc4 := (hq2.below hB4).c1
          rw [HM.out] at hc4
          obtain ⟨hst1, hst2⟩ := stored hq2 hB4 ho9 (fun e he => hq2.rg e (List.mem_cons_of_mem _ he)) (by have := HM.out; simp only [List.length_cons] at this; show M.length ≤ 256; omega)
          refine ⟨a9, n9, c9, w4, hr9, (hq2.below hB4).hb.frozen 1, hc4, ?_⟩
          have q1 : Kept (· = b) w w1 := HQ.out.2.1.trans (Kept.of_below hA)
          have q2 : Kept (· = b) w w2 := q1.self (hk8.mono fun k _ e => .inr (hob k e).1)
          refine ⟨⟨_, hst1, q2.trans hst2, fun g' hg => .inr ?_, fun g' hg e => ?_⟩, ?_⟩
          · have := (ho9.lt g' hg).1; have := q2.size; omega
          · have h1 := (ho9.lt g' hg).1
            have h2 := (ho8.lt g' e).2
            omega
          · have e1 : (pre ++ [(x1, x2)]).length = (ids pre ++ [x1]).length := by simp [ids]
            have e2 : ids (pre ++ [(x1, x2)]) = ids pre ++ [x1] := by simp [ids]
            rw [e1, e2]
            exact own_same ho8 fun g' hg => hst2.block g' (ho8.lt g' hg).2 (by have := (ho8.lt g' hg).1; omega)
        have hLn : n + m = L.length := by rw [HL.out, List.length_append, HN.out, HM.out]
        have hn2 : n + 1 ≤ 256 := by omega
        have HLn : Hid (n < L.length) := by rw [Hid]; omega
        clear hLn
        have HP2 : Hid (∀ y ∈ pre ++ [(x1, x2)], y.2 ≤ now) := fun y hy => by
          rcases List.mem_append.1 hy with h | h
          · exact HP.out y h
          · obtain rfl := List.mem_singleton.1 h
            exact hx
        have HN2 : Hid ((pre ++ [(x1, x2)]).length = n + 1) := by rw [Hid, List.length_append, HN.out]; rfl
        have HL2 : Hid (L = pre ++ [(x1, x2)] ++ M) := by rw [Hid, HL.out, List.append_assoc]; rfl
        clear hA hx1 hbase ho8 hk8 hat8 hob hbw hq2 hA3 ho3
        by_cases h70 : cv = 1
        · subst h70
          obtain rfl : m = 1 := by omega
          rw [if_pos rfl] at hRD
          obtain ⟨a9, n9, c9, w4, hr9, hf4, hc4, HF⟩ := R9 _ _ _ hRD
          simp only [Nat.sub_self] at hr9
          clear hRD R9
          subst hw1 hw3
          go_wp2_with (first
            | (go_at_call 32; refine VB.out.mono ?_; rintro e w' ⟨rfl, rfl⟩)
            | (at_builtin; refine Lib.wpList_append_run _ rfl _ _ _ _ rfl _ _ rfl rfl _ _ hr8 ?_)
            | (at_builtin; refine Lib.wpList_append_run _ rfl _ _ _ _ rfl _ _ rfl rfl _ _ hr9 ?_))
          exact ⟨⟨pre ++ [(x1, x2)], M, n + 1, a2, c2, rfl, hn2, HN2.out, HL2.out, HP2.out, HF.out.2, HF.out.1⟩, by have := HLn.out; show L.length - (n + 1) < L.length - n; omega⟩
        · rw [if_neg h70] at hRD
          obtain ⟨a9, n9, c9, w4, hr9, hf4, hc4, HF⟩ := R9 (some ⟨g, 2, none⟩) _ _ (by simpa [Addr.add] using hRD)
          clear hRD R9
          subst hw1 hw3
          go_wp2_with (first
            | (go_at_call 32; refine VB.out.mono ?_; rintro e w' ⟨rfl, rfl⟩)
            | (at_builtin; refine Lib.wpList_append_run _ rfl _ _ _ _ rfl _ _ rfl rfl _ _ hr8 ?_)
            | (at_builtin; refine Lib.wpList_append_run _ rfl _ _ _ _ rfl _ _ rfl rfl _ _ hr9 ?_))
          exact ⟨⟨pre ++ [(x1, x2)], M, n + 1, a2, c2, rfl, hn2, HN2.out, HL2.out, HP2.out, HF.out.2, HF.out.1⟩, by have := HLn.out; show L.length - (n + 1) < L.length - n; omega⟩
      · go_wp2_with (go_at_call 32; refine VB.out.mono ?_; rintro e w' ⟨rfl, rfl⟩)
        go_ret
        exact due_end HS.out HN.out HL.out HP.out (fun y N e => by injection e with e1 e2; rw [← e1]; show now < x2; omega) HO.out HR.out

/-! ### Copy -/
set_option maxHeartbeats 1000000 in
theorem rcopy_ok (b : Nat) (v : Value) (L : List En) (w : World) (h : RqW w b v L) : Calls Try.prog 22 #[.pointer (some ⟨b, 0, none⟩)] w fun e w' => ∃ b' v', e = .returned (.pointer (some ⟨b', 0, none⟩)) ∧ RqW w' b' v' L ∧ w.heap.size ≤ b' ∧ (∀ g, v'.ownBlock = some g → w.heap.size ≤ g) ∧ Below w.heap.size w w' := by
  have VA := Lib.hid (rvalid_ok b v L w h)
  obtain ⟨a, c, rfl, hc1, hc2, _, _⟩ := h.form
  have hA : Below w.heap.size w (w.alloc (.cells #[] 63)) := (Below.refl _ _).alloc (Nat.le_refl _) _
  have ho := World.ownsRow_lit (e := 63) (size := 2) w #[] 0 (Nat.le_refl w.heap.size) (by decide) rfl
  have hc := (h.below hA).c1
  have hRD := rd_take (h.below hA) L.length (Nat.le_refl _)
  rw [List.take_length] at hRD
  obtain ⟨a9, n9, c9, w4, hr9, ho9, hk9, _⟩ := app_w (L := []) (M := L) ho hRD (by have := h.len; simp only [List.length_nil]; omega) hA.size
  have hB4 : Below w.heap.size w w4 := hA.trans (hk9.below hA.size fun k e => (ho.lt k e).1)
  have HF : Hid (RqW (w4.alloc (.cells #[.bool true, .slice a9 n9 c9] 60)) w4.heap.size (.slice a9 n9 c9) L ∧ w.heap.size ≤ w4.heap.size ∧ (∀ g, (Value.slice a9 n9 c9).ownBlock = some g → w.heap.size ≤ g) ∧ Below w.heap.size w (w4.alloc (.cells #[.bool true, .slice a9 n9 c9] 60))) := by
    have hA4 : Below w4.heap.size w4 (w4.alloc (.cells #[.bool true, .slice a9 n9 c9] 60)) := (Below.refl _ _).alloc (Nat.le_refl _) _
    exact ⟨⟨Bk.new _ _ _, own_lower (own_below ho9 hA4) (Nat.zero_le _), h.rg, h.len⟩, hB4.size, fun g hg => (ho9.lt g hg).1, bel2 hB4 hA4⟩
  clear h hA ho hRD ho9 hk9 hB4
  go_enter Try.func22, Try.ntmps22
  go_wp2_with (first
    | (go_at_call 32; refine VA.out.mono ?_; rintro e w' ⟨rfl, rfl⟩)
    | (at_builtin; refine Lib.wpList_append_run _ rfl _ _ _ _ rfl _ _ rfl rfl _ _ hr9 ?_))
  go_ret
  exact ⟨_, _, rfl, HF.out⟩
end Go.Proofs.Ytlnjgbdekcgmpaa
