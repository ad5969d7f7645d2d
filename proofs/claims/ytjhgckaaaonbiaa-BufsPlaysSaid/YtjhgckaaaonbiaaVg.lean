/- The contracts of the document's New. -/
import Derived.Test.YtjhgckaaaonbiaaVc
namespace Go.Proofs.Ytjhgckaaaonbiaa
open Go.RowKit

/-- A new pool of the document's. -/
def DNew (F : Po) (w : World) (c : Nat) (w' : World) : Prop := ∃ d, DW w' c d F ∧ w.heap.size ≤ c ∧ w.heap.size ≤ d ∧ Below w.heap.size w w'
/-- A row that the call owns, and the struct that names it, are the document's pool. -/
theorem dw_of_own {w : World} {base c n : Nat} {v : Value} {F : Po} (ho : F.Ok) (hn : F.t.n = n) (hc : Bk w c 76 #[.bool true, .int .i64 F.room, v]) (h : w.ownsRow base 78 4 v n (F.dcls n)) : ∃ d, base ≤ d ∧ DW w c d F := by
  have hlo := ho.t.lo
  rcases h.2 with ⟨rfl, h0⟩ | ⟨g, cap, cur, rfl, h1, h2, h3, h4, h5, h6⟩
  · omega
  · refine ⟨g, h1, ho, cap, cur, by rw [hn]; exact hc, h2, h5, by omega, h4, fun i hi q hq => ?_⟩
    rw [hn] at hi
    have := dcls_at F n i hi q hq
    rw [← h6, List.getElem?_take_of_lt (by omega), Array.getElem?_toList] at this
    exact this
theorem dnew_bad (n r g : Int) (w : World) (hn : I64 n) (hr : I64 r) (hg : 0 ≤ g ∧ g ≤ 4294967295) (h : PBad n r g) :
    Calls Try.prog 12 #[.int .i64 n, .int .i64 r, .int .u32 g] w fun e w' => e = .returned (.tuple #[.pointer none, .int .i64 2]) ∧ w = w' := by
  obtain ⟨n0, n1⟩ := hn
  obtain ⟨r0, r1⟩ := hr
  obtain ⟨g0, g1⟩ := hg
  by_cases c : n < 1
  · go_enter Try.func12, Try.ntmps12
    go_wp2
    go_ret2
    exact ⟨rfl, rfl⟩
  by_cases c1 : 64 < n
  · go_enter Try.func12, Try.ntmps12
    go_wp2
    go_ret2
    exact ⟨rfl, rfl⟩
  by_cases c2 : r < 1
  · go_enter Try.func12, Try.ntmps12
    go_wp2
    go_ret2
    exact ⟨rfl, rfl⟩
  by_cases c3 : 16777216 < r
  · go_enter Try.func12, Try.ntmps12
    go_wp2
    go_ret2
    exact ⟨rfl, rfl⟩
  obtain rfl : g = 0 := by unfold PBad at h; omega
  go_enter Try.func12, Try.ntmps12
  go_wp2
  go_ret2
  exact ⟨rfl, rfl⟩
structure DNSt (w0 w : World) (v : Value) (F : Po) (k : Nat) : Prop where
  bk : Bk w w0.heap.size 76 #[.bool true, .int .i64 F.room, v]
  o : w.ownsRow (w0.heap.size + 1) 78 4 v k (F.dcls k)
  bel : Below w0.heap.size w0 w
theorem own_id_at {w w' : World} {base n c : Nat} {v : Value} {xs : List Value} (h : w.ownsRow base 78 4 v n xs) (k : Kept (· = c) w w') (hc : c < base) : w'.ownsRow base 78 4 v n xs :=
  own_same h fun g hg => k.block g (h.lt g hg).2 (by have := (h.lt g hg).1; omega)
set_option maxRecDepth 100000 in
set_option maxHeartbeats 2000000 in
theorem dnew_ok (n r first : Nat) (w : World) (h1 : 1 ≤ n) (h2 : n ≤ 64) (h3 : 1 ≤ first) (h4 : first ≤ 4294967295) (h5 : 1 ≤ r) (h6 : r ≤ 16777216) : Calls Try.prog 12 #[.int .i64 n, .int .i64 r, .int .u32 first] w fun e w' => ∃ c, e = .returned (.tuple #[.pointer (some ⟨c, 0, none⟩), .int .i64 0]) ∧ Hid (DNew (pfresh n r first) w c w') := by
  obtain ⟨i0, hi, hz0, hz1, hz2⟩ := info_parts info_id
  have ST : Hid (∃ v, DNSt w (w.alloc (.cells #[.bool true, .int .i64 r, .slice none 0 0] 76)) v (pfresh n r first) 0) := ⟨.slice none 0 0, Bk.new w _ _, World.ownsRow_nil _ _ _ _, (Below.refl _ w).alloc (Nat.le_refl _) _⟩
  have hn1 : ¬ (n : Int) < 1 := by omega
  have hn2 : ¬ 64 < (n : Int) := by omega
  have hr1 : ¬ (r : Int) < 1 := by omega
  have hr2 : ¬ 16777216 < (r : Int) := by omega
  have hf1 : ¬ (first : Int) < 1 := by omega
  go_enter Try.func12, Try.ntmps12
  go_wp2
  generalize w.alloc (.cells #[.bool true, .int .i64 r, .slice none 0 0] 76) = w1 at *
  go_loopw [9] (fun i wr => ∃ k : Nat, k ≤ n ∧ i = .int .i64 k ∧ Hid (∃ v, DNSt w wr v (pfresh n r first) k)) (fun i _ => n - (intOf i).toNat)
  case atStart => exact ⟨0, Nat.zero_le _, rfl, ST.out⟩
  case round =>
    clear ST
    obtain ⟨k, hk, rfl, HS⟩ := hrel
    obtain ⟨v, hv⟩ := HS.out
    obtain ⟨p, c', rfl⟩ := own_id_form hv.o
    have HV := Lib.hid hv
    have hc : wr.cell? ⟨w.heap.size, 2, none⟩ = some (.slice p k c') := hv.bk.cell 2
    have hlt0 := hv.bk.lt
    clear hv HS
    by_cases hlt : k < n
    · have hgk : (pfresh n r first).t.g k = first := if_pos hlt
      have HG := Lib.hid hgk
      clear hgk
      go_wp2_with (at_builtin; refine wpList_append_own _ rfl _ _ 74 rfl (w.heap.size + 1) 78 i0 _ 4 16 Try.underlying74 hi hz0 hz1 hz2 rfl (by decide) _ _ _ rfl (HV.out.o.alloc _) ⟨wr.heap.size, 0, none⟩ 1 1 (dcl 0 first 0) rfl rfl ?c1 (dcl_one _ _ _) ?c2 ?c3 ?c4 ?_)
      case c1 =>
        intro j u hj
        have e : (⟨wr.heap.size, 0, none⟩ : Addr).add j = ⟨wr.heap.size, j, none⟩ := by unfold Addr.add; split <;> simp_all
        rw [e, (Bk.new wr _ _).cell]
        show (dcl 0 first 0).toArray[j]? = some u
        rw [List.getElem?_toArray]
        exact hj
      case c2 => unfold maxLen; omega
      case c3 => omega
      case c4 => simp; omega
      intro v' w2 hown' hgrow _
      obtain ⟨p', c2, rfl⟩ := own_id_form hown'
      have hge : ∀ j, (Value.slice p k c').ownBlock = some j → w.heap.size + 1 ≤ j := fun j ej => (HV.out.o.lt j ej).1
      have hb2 : Bk w2 w.heap.size 76 #[.bool true, .int .i64 r, .slice p k c'] := by
        have e : w2.heap[w.heap.size]? = wr.heap[w.heap.size]? := by
          rw [hgrow.block w.heap.size (by simp; omega) (fun e => by have := hge _ e.symm; omega)]
          exact Below.heap_alloc _ _ _ hlt0
        exact HV.out.bk.same e
      have hbel2 : Below w.heap.size w w2 := (HV.out.bel.alloc HV.out.bel.size _).grown hgrow (by have := HV.out.bel.size; simp; omega) (fun j ej => by have := hge j ej; omega)
      have hc2 : w2.cell? ⟨w.heap.size, 2, none⟩ = some (.slice p k c') := hb2.cell 2
      have hf2 := hb2.frozen 2
      have HS2 : Hid (DNSt w (w2.setCell ⟨w.heap.size, 2, none⟩ (.slice p' (k + 1) c2)) (.slice p' (k + 1) c2) (pfresh n r first) (k + 1)) := by
        refine ⟨hb2.put 2 _, ?_, hbel2.setCell (p := ⟨w.heap.size, 2, none⟩) (Nat.le_refl _) _⟩
        have hp : (pfresh n r first).dcls (k + 1) = (pfresh n r first).dcls k ++ dcl 0 first 0 := by
          rw [dcls_snoc, HG.out]; rfl
        rw [hp]
        exact own_id_at hown' ((Kept.refl (· = w.heap.size) w2).put1 2 _) (Nat.lt_succ_self _)
      clear hown' hgrow hb2 hbel2 hge hc
      go_wp2
      go_roundw
      case rel => exact ⟨k + 1, by omega, by go_num, _, HS2.out⟩
      case measure => simp [intOf]; omega
    · obtain rfl : k = n := by omega
      have HR : Hid (DNew (pfresh k r first) w w.heap.size wr) := by
        obtain ⟨d, hd, hR⟩ := dw_of_own (pfresh_ok h1 h2 h3 h4 h6) rfl HV.out.bk HV.out.o
        exact ⟨d, hR, Nat.le_refl _, by omega, HV.out.bel⟩
      clear hc
      go_wp2
      go_ret2
      exact ⟨_, rfl, HR⟩
end Go.Proofs.Ytjhgckaaaonbiaa
