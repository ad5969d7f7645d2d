/- The contracts of the document's New and Copy. -/
import Derived.Test.YtfnhkapbfgofkaaWcb
import Derived.Test.YtfnhkapbfgofkaaWu
import Derived.Lib.AppendZeros
import Derived.Lib.SliceRun
import Derived.Laws.AppendOwn
namespace Go.Proofs.Ytfnhkapbfgofkaa
open Go.RowKit

/-- A new heap of the document's. -/
def ENew (H : Hp) (w : World) (c : Nat) (w' : World) : Prop := ∃ d, EW w' c d H ∧ w.heap.size ≤ c ∧ w.heap.size ≤ d ∧ Below w.heap.size w w'
/-- A row that the call owns, and the struct that names it, are the document's heap. -/
theorem ew_of_own {w : World} {base c n : Nat} {v : Value} {H : Hp} (ho : H.Ok) (hn : H.t.n = n) (hc : Bk w c 85 #[.bool true, v]) (h : w.ownsRow base 88 13 v n (H.ecls n)) : ∃ d, base ≤ d ∧ EW w c d H := by
  have hlo := ho.t.lo
  rcases h.2 with ⟨rfl, h0⟩ | ⟨g, cap, cur, rfl, h1, h2, h3, h4, h5, h6⟩
  · omega
  · refine ⟨g, h1, ho, cap, cur, by rw [hn]; exact hc, h2, h5, by omega, h4, fun i hi q hq => ?_⟩
    rw [hn] at hi
    have := ecls_at H n i hi q hq
    rw [← h6, List.getElem?_take_of_lt (by omega), Array.getElem?_toList] at this
    exact this
theorem dh_new_bad (n g : Int) (w : World) (hg : 0 ≤ g) (h : n < 1 ∨ 256 < n ∨ g < 1) :
    Calls Try.prog 13 #[.int .i64 n, .int .u32 g] w fun e w' => e = .returned (.tuple #[.pointer none, .int .i64 2]) ∧ w = w' := by
  by_cases c : n < 1
  · go_enter Try.func13, Try.ntmps13
    go_wp2
    go_ret2
    exact ⟨rfl, rfl⟩
  by_cases c1 : 256 < n
  · go_enter Try.func13, Try.ntmps13
    go_wp2
    go_ret2
    exact ⟨rfl, rfl⟩
  obtain rfl : g = 0 := by omega
  go_enter Try.func13, Try.ntmps13
  go_wp2
  go_ret2
  exact ⟨rfl, rfl⟩
structure ENSt (w0 w : World) (v : Value) (H : Hp) (k : Nat) : Prop where
  bk : Bk w w0.heap.size 85 #[.bool true, v]
  o : w.ownsRow (w0.heap.size + 1) 88 13 v k (H.ecls k)
  bel : Below w0.heap.size w0 w
theorem own_sl_at {w w' : World} {base n c : Nat} {v : Value} {xs : List Value} (h : w.ownsRow base 88 13 v n xs) (k : Kept (· = c) w w') (hc : c < base) : w'.ownsRow base 88 13 v n xs :=
  own_same h fun g hg => k.block g (h.lt g hg).2 (by have := (h.lt g hg).1; omega)
set_option maxRecDepth 100000 in
set_option maxHeartbeats 2000000 in
theorem dh_new (n first : Nat) (w : World) (h1 : 1 ≤ n) (h2 : n ≤ 256) (h3 : 1 ≤ first) (h4 : first ≤ 4294967295) : Calls Try.prog 13 #[.int .i64 n, .int .u32 first] w fun e w' => ∃ c, e = .returned (.tuple #[.pointer (some ⟨c, 0, none⟩), .int .i64 0]) ∧ Hid (ENew (hfresh n first) w c w') := by
  obtain ⟨i0, hi, hz0, hz1, hz2⟩ := info_parts info_sl
  have ST : Hid (∃ v, ENSt w (w.alloc (.cells #[.bool true, .slice none 0 0] 85)) v (hfresh n first) 0) := ⟨.slice none 0 0, Bk.new w _ _, World.ownsRow_nil _ _ _ _, (Below.refl _ w).alloc (Nat.le_refl _) _⟩
  have hn1 : ¬ (n : Int) < 1 := by omega
  have hn2 : ¬ 256 < (n : Int) := by omega
  have hf1 : ¬ (first : Int) < 1 := by omega
  go_enter Try.func13, Try.ntmps13
  go_wp2
  generalize w.alloc (.cells #[.bool true, .slice none 0 0] 85) = w1 at *
  go_loopw [7] (fun i wr => ∃ k : Nat, k ≤ n ∧ i = .int .i64 k ∧ Hid (∃ v, ENSt w wr v (hfresh n first) k)) (fun i _ => n - (intOf i).toNat)
  case atStart => exact ⟨0, Nat.zero_le _, rfl, ST.out⟩
  case round =>
    clear ST
    obtain ⟨k, hk, rfl, HS⟩ := hrel
    obtain ⟨v, hv⟩ := HS.out
    obtain ⟨p, c', rfl⟩ := own_sl hv.o
    have HV := Lib.hid hv
    have hc : wr.cell? ⟨w.heap.size, 1, none⟩ = some (.slice p k c') := hv.bk.cell 1
    have hlt0 := hv.bk.lt
    clear hv HS
    by_cases hlt : k < n
    · have hgk : (hfresh n first).t.g k = first := if_pos hlt
      have HG := Lib.hid hgk
      clear hgk
      go_wp2_with (at_builtin; refine wpList_append_own _ rfl _ _ 83 rfl (w.heap.size + 1) 88 i0 _ 13 88 Try.underlying83 hi hz0 hz1 hz2 rfl (by decide) _ _ _ rfl (HV.out.o.alloc _) ⟨wr.heap.size, 0, none⟩ 1 1 (ecl 0 first ob0) rfl rfl ?c1 (ecl_one _ _ _) ?c2 ?c3 ?c4 ?_)
      case c1 =>
        intro j u hj
        have e : (⟨wr.heap.size, 0, none⟩ : Addr).add j = ⟨wr.heap.size, j, none⟩ := by unfold Addr.add; split <;> simp_all
        rw [e, (Bk.new wr _ _).cell]
        show (ecl 0 first ob0).toArray[j]? = some u
        rw [List.getElem?_toArray]
        exact hj
      case c2 => unfold maxLen; omega
      case c3 => omega
      case c4 => simp; omega
      intro v' w2 hown' hgrow _
      obtain ⟨p', c2, rfl⟩ := own_sl hown'
      have hge : ∀ j, (Value.slice p k c').ownBlock = some j → w.heap.size + 1 ≤ j := fun j ej => (HV.out.o.lt j ej).1
      have hb2 : Bk w2 w.heap.size 85 #[.bool true, .slice p k c'] := by
        have e : w2.heap[w.heap.size]? = wr.heap[w.heap.size]? := by
          rw [hgrow.block w.heap.size (by simp; omega) (fun e => by have := hge _ e.symm; omega)]
          exact Below.heap_alloc _ _ _ hlt0
        exact HV.out.bk.same e
      have hbel2 : Below w.heap.size w w2 := (HV.out.bel.alloc HV.out.bel.size _).grown hgrow (by have := HV.out.bel.size; simp; omega) (fun j ej => by have := hge j ej; omega)
      have hc2 : w2.cell? ⟨w.heap.size, 1, none⟩ = some (.slice p k c') := hb2.cell 1
      have hf2 := hb2.frozen 1
      have HS2 : Hid (ENSt w (w2.setCell ⟨w.heap.size, 1, none⟩ (.slice p' (k + 1) c2)) (.slice p' (k + 1) c2) (hfresh n first) (k + 1)) := by
        refine ⟨hb2.put 1 _, ?_, hbel2.setCell (p := ⟨w.heap.size, 1, none⟩) (Nat.le_refl _) _⟩
        have hp : (hfresh n first).ecls (k + 1) = (hfresh n first).ecls k ++ ecl 0 first ob0 := by
          rw [ecls_snoc, HG.out]; rfl
        rw [hp]
        exact own_sl_at hown' ((Kept.refl (· = w.heap.size) w2).put1 1 _) (Nat.lt_succ_self _)
      clear hown' hgrow hb2 hbel2 hge hc
      go_wp2
      go_roundw
      case rel => exact ⟨k + 1, by omega, by go_num, _, HS2.out⟩
      case measure => simp [intOf]; omega
    · obtain rfl : k = n := by omega
      have HR : Hid (ENew (hfresh k first) w w.heap.size wr) := by
        obtain ⟨d, hd, hR⟩ := ew_of_own (hfresh_ok h1 h2 h3 h4) rfl HV.out.bk HV.out.o
        exact ⟨d, hR, Nat.le_refl _, by omega, HV.out.bel⟩
      clear hc
      go_wp2
      go_ret2
      exact ⟨_, rfl, HR⟩
/-- The document's slots behind an empty slice of the call's own. -/
theorem app_sl {W : World} {base c d cap : Nat} {v : Value} {H : Hp} (ho : W.ownsRow base 88 13 v 0 []) (h : EW W c d H) (hb : base ≤ W.heap.size) :
    ∃ p' c2 W', (Builtin.append_ #[83, 83] 83 #[v, .slice (some ⟨d, 0, none⟩) H.t.n cap]).run Try.prog W = .ok (.slice p' H.t.n c2) W' ∧ W'.ownsRow base 88 13 (.slice p' H.t.n c2) H.t.n (H.ecls H.t.n) ∧ Kept (fun g => v.ownBlock = some g) W W' := by
  obtain ⟨i0, hi, hz0, hz1, hz2⟩ := info_parts info_sl
  have hn := h.ok.t.hi
  obtain ⟨v', W', hrun, hown, hgr, _, _⟩ := run_append_own_at (P := Try.prog) W base 83 83 88 i0 _ 13 88 Try.underlying83 hi hz0 hz1 hz2 rfl (by decide) v 0 [] ho ⟨d, 0, none⟩ H.t.n cap (H.ecls H.t.n) (ecls_len H _) (fun j u hj => by
      have hjl := (List.getElem?_eq_some_iff.1 hj).1
      rw [ecls_len] at hjl
      have e : (⟨d, 0, none⟩ : Addr).add j = ⟨d, j, none⟩ := by unfold Addr.add; split <;> simp_all
      obtain ⟨cap', cur, _, h2, _, _, _, h6⟩ := h.at_
      have hp := ecls_at H H.t.n (j / 13) (by omega) (j % 13) (by omega)
      have hq := h6 (j / 13) (by omega) (j % 13) (by omega)
      rw [show j / 13 * 13 + j % 13 = j by omega] at hp hq
      rw [e, Bk.cell h2, hq, ← hp, hj]) (ecls_one H _) (by unfold maxLen; omega) (by omega) hb
  rw [Nat.zero_add, List.nil_append] at hown
  obtain ⟨p', c2, rfl⟩ := own_sl hown
  exact ⟨p', c2, W', hrun, hown, ⟨hgr.os, hgr.tape, hgr.output, hgr.size, fun k hk hs => hgr.block k hk fun e => hs e.symm⟩⟩
set_option maxHeartbeats 2000000 in
theorem dh_copy (c d : Nat) (H : Hp) (w : World) (h : EW w c d H) : Calls Try.prog 23 #[.pointer (some ⟨c, 0, none⟩)] w fun e w' => ∃ c', e = .returned (.pointer (some ⟨c', 0, none⟩)) ∧ Hid (ENew H w c' w') := by
  have HV := Lib.hid (dh_valid c d H w h)
  obtain ⟨cap, c0, c1, hc1, hc2⟩ := h.c0
  have HD := Lib.hid h
  have HO : Hid ((w.alloc (.cells #[] 88)).ownsRow w.heap.size 88 13 (.slice (some ⟨w.heap.size, 0, none⟩) 0 0) 0 []) := World.ownsRow_lit w #[] 0 (Nat.le_refl _) (by decide) rfl
  obtain ⟨i0, hi, hz0, hz1, hz2⟩ := info_parts info_sl
  have hbn := bel_new w (.cells #[] 88)
  have c1' : (w.alloc (.cells #[] 88)).cell? ⟨c, 1, none⟩ = some (.slice (some ⟨d, 0, none⟩) H.t.n cap) := cell_stays hbn c1
  have H2 := Lib.hid (h.below hbn)
  obtain ⟨n, hn⟩ : ∃ n, H.t.n = n := ⟨_, rfl⟩
  have hn256 := h.ok.t.hi
  have BN := Lib.hid hbn
  rw [hn] at c1' hc1 hn256
  have HN := Lib.hid hn
  clear h c0 c1 hbn hn
  go_enter Try.func23, Try.ntmps23
  go_wp2_with (first
    | (go_at_call 38; refine HV.out.mono ?_; rintro e w' ⟨rfl, rfl⟩)
    | (at_builtin; refine wpList_append_own _ rfl _ _ 83 rfl w.heap.size 88 i0 _ 13 88 Try.underlying83 hi hz0 hz1 hz2 rfl (by decide) _ 0 [] rfl HO.out ⟨d, 0, none⟩ n cap (H.ecls n) rfl (ecls_len H _) ?c1 (ecls_one H _) ?c2 ?c3 ?c4 ?_))
  case c1 =>
    intro j u hj
    have hjl := (List.getElem?_eq_some_iff.1 hj).1
    rw [ecls_len] at hjl
    have e : (⟨d, 0, none⟩ : Addr).add j = ⟨d, j, none⟩ := by unfold Addr.add; split <;> simp_all
    obtain ⟨cap', cur, _, h2, _, _, _, h6⟩ := H2.out.at_
    have hp := ecls_at H n (j / 13) (by omega) (j % 13) (by omega)
    have hq := h6 (j / 13) (by rw [HN.out]; omega) (j % 13) (by omega)
    rw [show j / 13 * 13 + j % 13 = j by omega] at hp hq
    rw [e, h2.cell, hq, ← hp, hj]
  case c2 => unfold maxLen; omega
  case c3 => omega
  case c4 => simp
  intro v' w2 hown hgrow _
  have hown' : w2.ownsRow w.heap.size 88 13 v' n (H.ecls n) := by simpa using hown
  obtain ⟨p', c2, rfl⟩ := own_sl hown'
  have hB : Below w.heap.size w w2 := BN.out.grown hgrow (by simp) (fun k hk => (HO.out.lt k hk).1)
  have HF : Hid (ENew H w w2.heap.size (w2.alloc (.cells #[.bool true, .slice p' n c2] 85))) := by
    obtain ⟨d', hd, hR⟩ := ew_of_own HD.out.ok HN.out (Bk.new w2 85 #[.bool true, .slice p' n c2]) (hown'.alloc _)
    exact ⟨d', hR, hB.size, hd, hB.alloc hB.size _⟩
  clear hown hown' hgrow hB
  go_wp2
  go_ret
  exact ⟨_, rfl, HF⟩
end Go.Proofs.Ytfnhkapbfgofkaa
