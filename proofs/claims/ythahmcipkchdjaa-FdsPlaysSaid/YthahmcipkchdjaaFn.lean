/- The contracts of the document's New and Copy. -/
import Derived.Test.YthahmcipkchdjaaFo
namespace Go.Proofs.Ythahmcipkchdjaa
open Go.RowKit

theorem info_id : (Try.prog.info? 84).map (fun i => (i.zero, i.size, i.bytes)) = some (some (.agg #[.bool false, .bool false, .int .u32 0, .int .i64 0]), 4, 16) := by kernel_rfl
theorem dcl_one (s g x : Nat) : ∀ u ∈ dcl s g x, u.oneCell' = true := by
  intro u hu
  simp only [dcl, List.mem_cons, List.not_mem_nil, or_false] at hu
  rcases hu with rfl | rfl | rfl | rfl <;> rfl
theorem dcls_one (F : Fb) (k : Nat) : ∀ u ∈ F.dcls k, u.oneCell' = true := by
  intro u hu
  obtain ⟨i, _, h⟩ := List.mem_flatMap.1 hu
  exact dcl_one _ _ _ u h
/-- A row that the call owns, and the struct that names it, are the document's table. -/
theorem dw_of_own {w : World} {base c n : Nat} {v : Value} {F : Fb} (ho : F.Ok) (hn : F.t.n = n) (hc : Bk w c 82 #[v]) (h : w.ownsRow base 84 4 v n (F.dcls n)) : ∃ d, base ≤ d ∧ DW w c d F := by
  have hlo := ho.t.lo
  rcases h.2 with ⟨rfl, h0⟩ | ⟨g, cap, cur, rfl, h1, h2, h3, h4, h5, h6⟩
  · omega
  · refine ⟨g, h1, ho, cap, cur, by rw [hn]; exact hc, h2, h5, by omega, h4, fun i hi q hq => ?_⟩
    rw [hn] at hi
    have := dcls_at F n i hi q hq
    rw [← h6, List.getElem?_take_of_lt (by omega), Array.getElem?_toList] at this
    exact this
theorem own_id_form {w : World} {base n : Nat} {v : Value} {xs : List Value} (h : w.ownsRow base 84 4 v n xs) : ∃ p c, v = .slice p n c := by
  rcases h.2 with ⟨rfl, h0⟩ | ⟨g', cap, cur, rfl, _⟩
  · exact ⟨_, _, by rw [h0]⟩
  · exact ⟨_, _, rfl⟩
/-- A new table of the document's. -/
def DNew (F : Fb) (w : World) (c : Nat) (w' : World) : Prop := ∃ d, DW w' c d F ∧ w.heap.size ≤ c ∧ w.heap.size ≤ d ∧ Below w.heap.size w w'
set_option maxHeartbeats 1000000 in
set_option maxRecDepth 1000000 in
theorem dcopy_ok (c d : Nat) (F : Fb) (w : World) (h : DW w c d F) : Calls Try.prog 19 #[.pointer (some ⟨c, 0, none⟩)] w fun e w' => ∃ c', e = .returned (.pointer (some ⟨c', 0, none⟩)) ∧ Hid (DNew F w c' w') := by
  obtain ⟨i0, hi, hz0, hz1, hz2⟩ := info_parts info_id
  obtain ⟨cap, hc, hcap, hcm⟩ := h.c0
  have hn := h.ok.hi
  have hct := h.ct
  have hdt := h.dt
  have HO : Hid ((w.alloc (.cells #[] 84)).ownsRow w.heap.size 84 4 (.slice (some ⟨w.heap.size, 0, none⟩) 0 0) 0 []) := World.ownsRow_lit w #[] 0 (Nat.le_refl _) (by decide) rfl
  have hbn : Below w.heap.size w (w.alloc (.cells #[] 84)) := (Below.refl _ w).alloc (Nat.le_refl _) _
  have hc' := cell_keeps hbn hc
  have H := Lib.hid (h.below hbn)
  clear h hbn
  go_enter Try.func19, Try.ntmps19
  go_wp2_with (at_builtin; refine wpList_append_own _ rfl _ _ 80 rfl w.heap.size 84 i0 _ 4 16 Try.underlying80 hi hz0 hz1 hz2 rfl (by decide) _ 0 [] rfl HO.out ⟨d, 0, none⟩ F.t.n cap (F.dcls F.t.n) rfl (dcls_len F _) ?c1 (dcls_one F _) ?c2 ?c3 ?c4 ?_)
  case c1 =>
    intro j u hj
    have hjl := (List.getElem?_eq_some_iff.1 hj).1
    rw [dcls_len] at hjl
    have e : (⟨d, 0, none⟩ : Addr).add j = ⟨d, j, none⟩ := by unfold Addr.add; split <;> simp_all
    obtain ⟨cap', cur, _, h2, _, _, _, h6⟩ := H.out.at_
    have hp := dcls_at F F.t.n (j / 4) (by omega) (j % 4) (by omega)
    have hq := h6 (j / 4) (by omega) (j % 4) (by omega)
    rw [show j / 4 * 4 + j % 4 = j by omega] at hp hq
    rw [e, h2.cell, hq, ← hp, hj]
  case c2 => unfold maxLen; omega
  case c3 => omega
  case c4 => simp
  intro v' w1 hown hgrow _
  have hown' : w1.ownsRow w.heap.size 84 4 v' F.t.n (F.dcls F.t.n) := by simpa using hown
  obtain ⟨p, c2, rfl⟩ := own_id_form hown'
  have hB : Below w.heap.size w w1 := ((Below.refl _ w).alloc (Nat.le_refl _) _).grown hgrow (by simp) (fun k hk => (HO.out.lt k hk).1)
  have HN : Hid (DNew F w w1.heap.size (w1.alloc (.cells #[.slice p F.t.n c2] 82))) := by
    have h3 := hown'.alloc (.cells #[.slice p F.t.n c2] 82)
    obtain ⟨d', h4, h5⟩ := dw_of_own H.out.ok rfl (Bk.new w1 82 #[.slice p F.t.n c2]) h3
    exact ⟨d', h5, hB.size, h4, bel_alloc hB _⟩
  clear hown hown' hgrow hB
  go_wp2
  go_ret
  exact ⟨_, rfl, HN⟩

/-! ### New -/
theorem dnew_bad (n g : Int) (w : World) (hn : I64 n) (hg : 0 ≤ g ∧ g ≤ 4294967295) (h : FBad n g) :
    Calls Try.prog 12 #[.int .i64 n, .int .u32 g] w fun e w' => e = .returned (.tuple #[.pointer none, .int .i64 2]) ∧ w = w' := by
  obtain ⟨n0, n1⟩ := hn
  obtain ⟨g0, g1⟩ := hg
  by_cases c1 : n < 1
  · go_enter Try.func12, Try.ntmps12
    go_wp2
    go_ret2
    exact ⟨rfl, rfl⟩
  by_cases c2 : 64 < n
  · go_enter Try.func12, Try.ntmps12
    go_wp2
    go_ret2
    exact ⟨rfl, rfl⟩
  obtain rfl : g = 0 := by unfold FBad at h; omega
  go_enter Try.func12, Try.ntmps12
  go_wp2
  go_ret2
  exact ⟨rfl, rfl⟩
structure DNSt (w0 w : World) (v : Value) (F : Fb) (k : Nat) : Prop where
  bk : Bk w w0.heap.size 82 #[v]
  o : w.ownsRow (w0.heap.size + 1) 84 4 v k (F.dcls k)
  bel : Below w0.heap.size w0 w
theorem own_id_at {w w' : World} {base n c : Nat} {v : Value} {xs : List Value} (h : w.ownsRow base 84 4 v n xs) (k : Kept (· = c) w w') (hc : c < base) : w'.ownsRow base 84 4 v n xs :=
  own_same h fun g hg => k.block g (h.lt g hg).2 (by have := (h.lt g hg).1; omega)
set_option maxRecDepth 100000 in
set_option maxHeartbeats 2000000 in
theorem dnew_ok (n first : Nat) (w : World) (h1 : 1 ≤ n) (h2 : n ≤ 64) (h3 : 1 ≤ first) (h4 : first ≤ 4294967295) : Calls Try.prog 12 #[.int .i64 n, .int .u32 first] w fun e w' => ∃ c, e = .returned (.tuple #[.pointer (some ⟨c, 0, none⟩), .int .i64 0]) ∧ Hid (DNew (ffresh n first) w c w') := by
  obtain ⟨i0, hi, hz0, hz1, hz2⟩ := info_parts info_id
  have ST : Hid (∃ v, DNSt w (w.alloc (.cells #[.slice none 0 0] 82)) v (ffresh n first) 0) := ⟨.slice none 0 0, Bk.new w _ _, World.ownsRow_nil _ _ _ _, (Below.refl _ w).alloc (Nat.le_refl _) _⟩
  have hz : ((first : Int) == 0) = false := beq_eq_false_iff_ne.2 (by omega)
  have hn1 : ¬ (n : Int) < 1 := by omega
  have hn2 : ¬ 64 < (n : Int) := by omega
  go_enter Try.func12, Try.ntmps12
  go_wp2
  generalize w.alloc (.cells #[.slice none 0 0] 82) = w1 at *
  go_loopw [7] (fun i wr => ∃ k : Nat, k ≤ n ∧ i = .int .i64 k ∧ Hid (∃ v, DNSt w wr v (ffresh n first) k)) (fun i _ => n - (intOf i).toNat)
  case atStart => exact ⟨0, Nat.zero_le _, rfl, ST.out⟩
  case round =>
    clear ST
    obtain ⟨k, hk, rfl, HS⟩ := hrel
    obtain ⟨v, hv⟩ := HS.out
    obtain ⟨p, c', rfl⟩ := own_id_form hv.o
    have HV := Lib.hid hv
    have hc : wr.cell? ⟨w.heap.size, 0, none⟩ = some (.slice p k c') := hv.bk.cell 0
    have hlt0 := hv.bk.lt
    clear hv HS
    by_cases hlt : k < n
    · have hgk : (ffresh n first).t.g k = first := if_pos hlt
      have HG := Lib.hid hgk
      clear hgk
      go_wp2_with (at_builtin; refine wpList_append_own _ rfl _ _ 80 rfl (w.heap.size + 1) 84 i0 _ 4 16 Try.underlying80 hi hz0 hz1 hz2 rfl (by decide) _ _ _ rfl (HV.out.o.alloc _) ⟨wr.heap.size, 0, none⟩ 1 1 (dcl 0 first 0) rfl rfl ?c1 (dcl_one _ _ _) ?c2 ?c3 ?c4 ?_)
      case c1 =>
        intro j u hj
        have e : (⟨wr.heap.size, 0, none⟩ : Addr).add j = ⟨wr.heap.size, j, none⟩ := by unfold Addr.add; split <;> simp_all
        rw [e, (Bk.new wr _ _).cell]
        show (dcl 0 first 0).toArray[j]? = some u
        rw [List.getElem?_toArray]
        exact hj
      case c2 => unfold maxLen; omega
      case c3 => omega
      case c4 => simp; omega
      intro v' w2 hown' hgrow _
      obtain ⟨p', c2, rfl⟩ := own_id_form hown'
      have hge : ∀ j, (Value.slice p k c').ownBlock = some j → w.heap.size + 1 ≤ j := fun j ej => (HV.out.o.lt j ej).1
      have hb2 : Bk w2 w.heap.size 82 #[.slice p k c'] := by
        have e : w2.heap[w.heap.size]? = wr.heap[w.heap.size]? := by
          rw [hgrow.block w.heap.size (by simp; omega) (fun e => by have := hge _ e.symm; omega)]
          exact Below.heap_alloc _ _ _ hlt0
        exact HV.out.bk.same e
      have hbel2 : Below w.heap.size w w2 := (HV.out.bel.alloc HV.out.bel.size _).grown hgrow (by have := HV.out.bel.size; simp; omega) (fun j ej => by have := hge j ej; omega)
      have hc2 : w2.cell? ⟨w.heap.size, 0, none⟩ = some (.slice p k c') := hb2.cell 0
      have hf2 := hb2.frozen 0
      have HS2 : Hid (DNSt w (w2.setCell ⟨w.heap.size, 0, none⟩ (.slice p' (k + 1) c2)) (.slice p' (k + 1) c2) (ffresh n first) (k + 1)) := by
        refine ⟨hb2.put 0 _, ?_, hbel2.setCell (p := ⟨w.heap.size, 0, none⟩) (Nat.le_refl _) _⟩
        have hp : (ffresh n first).dcls (k + 1) = (ffresh n first).dcls k ++ dcl 0 first 0 := by
          rw [dcls_snoc, HG.out]; rfl
        rw [hp]
        exact own_id_at hown' ((Kept.refl (· = w.heap.size) w2).put1 0 _) (Nat.lt_succ_self _)
      clear hown' hgrow hb2 hbel2 hge hc
      go_wp2
      go_roundw
      case rel => exact ⟨k + 1, by omega, by go_num, _, HS2.out⟩
      case measure => simp [intOf]; omega
    · obtain rfl : k = n := by omega
      have HR : Hid (DNew (ffresh k first) w w.heap.size wr) := by
        obtain ⟨d, hd, hR⟩ := dw_of_own (ffresh_ok h1 h2 h3 h4) rfl HV.out.bk HV.out.o
        exact ⟨d, hR, Nat.le_refl _, by omega, HV.out.bel⟩
      clear hc
      go_wp2
      go_ret2
      exact ⟨_, rfl, HR⟩
end Go.Proofs.Ythahmcipkchdjaa
