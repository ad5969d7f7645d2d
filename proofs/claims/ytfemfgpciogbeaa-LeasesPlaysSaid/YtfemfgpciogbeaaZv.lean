/- The contracts of the document's Taken and Copy; the pair of both tables: what a call does to it, and what both show. -/
import Derived.Test.YtfemfgpciogbeaaZu
namespace Go.Proofs.Ytfemfgpciogbeaa
open Go.RowKit

/-! ### Taken -/
/-- The references of the slots below k that are taken. -/
def nowTo (T : Tb) (k : Nat) : List (Nat × Nat) := T.refs (sel T.s 1 k)
theorem nowTo_yes {T : Tb} {k : Nat} (h : T.s k = 1) : nowTo T (k + 1) = nowTo T k ++ [(k, T.g k)] := by unfold nowTo; rw [sel_snoc, if_pos h, refs_snoc]
theorem nowTo_no {T : Tb} {k : Nat} (h : T.s k ≠ 1) : nowTo T (k + 1) = nowTo T k := by unfold nowTo; rw [sel_snoc, if_neg h, List.append_nil]
theorem nowTo_len (T : Tb) (k : Nat) : (nowTo T k).length ≤ k := by unfold nowTo Tb.refs; rw [List.length_map]; exact sel_len _ _ _
set_option maxHeartbeats 1000000 in
theorem rtaken_nil (w : World) : Calls Try.prog 60 #[.pointer none] w fun e w' => e = .returned (.slice none 0 0) ∧ w = w' := by
  go_enter Try.func60, Try.ntmps60
  go_wp2
  go_loop [3, 4] (fun c i => c = .slice none 0 0 ∧ i = .int .i64 0) (fun _ _ => 0)
  case atStart => exact ⟨rfl, rfl⟩
  case round =>
    obtain ⟨rfl, rfl⟩ := hrel
    go_wp2_with (go_at_call 66; refine (rvalid_nil _).mono ?_; rintro e w' ⟨rfl, rfl⟩)
    go_ret
    exact ⟨rfl, rfl⟩
set_option maxRecDepth 100000 in
set_option maxHeartbeats 2000000 in
theorem rtaken_ok (b d : Nat) (T : Tb) (w : World) (h : RefW w b d T) : Calls Try.prog 60 #[.pointer (some ⟨b, 0, none⟩)] w (TkS T.now w) := by
  obtain ⟨i0, hi, hz0, hz1, hz2⟩ := info_parts info_ref
  obtain ⟨cap, hc, hcap, hcm⟩ := h.c0
  have hn := h.ok.hi
  have hct := h.ct
  have hdt := h.dt
  have H := Lib.hid h
  clear h
  go_enter Try.func60, Try.ntmps60
  go_wp2
  go_loopw [3, 4] (fun v i wr => ∃ k : Nat, k ≤ T.n ∧ i = .int .i64 k ∧ Hid (wr.ownsRow w.heap.size 86 2 v (nowTo T k).length (pairs (nowTo T k))) ∧ Hid (Below w.heap.size w wr)) (fun _ i _ => T.n - (intOf i).toNat)
  case atStart => exact ⟨0, Nat.zero_le _, rfl, World.ownsRow_nil _ _ _ _, Below.refl _ _⟩
  case round =>
    clear hc
    obtain ⟨k, hk, rfl, HO, HBE⟩ := hrel
    have HW := Lib.hid (H.out.below HBE.out)
    obtain ⟨cap2, hc, hcap2, hcm2⟩ := HW.out.c0
    by_cases hlt : k < T.n
    · have hcs := HW.out.cs hlt
      have hcg := HW.out.cg hlt
      have hsz := HBE.out.size
      have hll := nowTo_len T k
      have hown := HO.out
      by_cases hs1 : T.s k = 1
      · have hnx := nowTo_yes hs1
        rw [hs1] at hcs
        obtain ⟨y, hy⟩ : ∃ y, T.g k = y := ⟨_, rfl⟩
        rw [hy] at hcg hnx
        have HNX := Lib.hid hnx
        clear hnx hs1 hy
        generalize nowTo T k = L at *
        go_wp2_with (first
          | (go_at_call 66; refine (rvalid_yes _ _ _ _ HW.out).mono ?_; rintro e w' ⟨rfl, rfl⟩)
          | (at_builtin; refine wpList_append_own _ rfl _ _ 96 rfl w.heap.size 86 i0 (.agg #[.int .i64 0, .int .u32 0]) 2 16 Try.underlying96 hi hz0 hz1 hz2 rfl (by decide) _ _ _ rfl (hown.alloc _) ⟨wr.heap.size, 0, none⟩ 1 1 [.int .i64 k, .int .u32 y] rfl rfl (cell_two_new _ _ _ _) ?c2 ?c3 ?c4 ?c5 ?_))
        case c2 => intro u hu; simp at hu; rcases hu with rfl | rfl <;> rfl
        case c3 => unfold maxLen; omega
        case c4 => omega
        case c5 => simp; omega
        intro v' w2 hown' hgrow _
        have HB2 := Lib.hid ((HBE.out.alloc hsz _).grown hgrow (by simp; omega) (fun q hq => (hown.lt q hq).1))
        have HO2 : Hid (w2.ownsRow w.heap.size 86 2 v' (L ++ [(k, y)]).length (pairs (L ++ [(k, y)]))) := by
          unfold Hid; rw [pairs_snoc, List.length_append]; exact hown'
        clear hown' hgrow hown
        go_wp2
        go_roundw
        case rel => exact ⟨k + 1, by omega, by go_num, by rw [HNX.out]; exact HO2.out, HB2.out⟩
        case measure => simp [intOf]; omega
      · have hnx := nowTo_no hs1
        have HNX := Lib.hid hnx
        have hx : ((T.s k : Int) == 1) = false := beq_eq_false_iff_ne.2 (by omega)
        generalize T.s k = x at *
        clear hnx hs1 hown
        go_wp2_with (go_at_call 66; refine (rvalid_yes _ _ _ _ HW.out).mono ?_; rintro e w' ⟨rfl, rfl⟩)
        go_roundw
        case rel => exact ⟨k + 1, by omega, by go_num, by rw [HNX.out]; exact HO.out, HBE.out⟩
        case measure => simp [intOf]; omega
    · obtain rfl : k = T.n := by omega
      have hsr := Sr.of_own HO.out
      obtain ⟨a2, c2, e2⟩ := hsr.len
      have HSR := Lib.hid hsr
      subst e2
      clear hsr
      go_wp2_with (go_at_call 66; refine (rvalid_yes _ _ _ _ HW.out).mono ?_; rintro e w' ⟨rfl, rfl⟩)
      go_ret
      exact ⟨a2, c2, rfl, HSR.out, HBE.out⟩

/-! ### Copy -/
def RCpV (T : Tb) (w : World) (e : Ending) (w' : World) : Prop := ∃ c d, e = .returned (.pointer (some ⟨c, 0, none⟩)) ∧ w.heap.size ≤ c ∧ w.heap.size ≤ d ∧ RefW w' c d T ∧ Below w.heap.size w w'
theorem rcopy_nil (w : World) : Calls Try.prog 57 #[.pointer none] w fun e w' => e = .returned (.pointer none) ∧ w = w' := by
  go_enter Try.func57, Try.ntmps57
  go_wp2_with (go_at_call 66; refine (rvalid_nil _).mono ?_; rintro e w' ⟨rfl, rfl⟩)
  go_ret
  exact ⟨rfl, rfl⟩
set_option maxHeartbeats 1000000 in
theorem rcopy_ok (b d : Nat) (T : Tb) (w : World) (h : RefW w b d T) : Calls Try.prog 57 #[.pointer (some ⟨b, 0, none⟩)] w (RCpV T w) := by
  obtain ⟨i0, hi, hz0, hz1, hz2⟩ := info_parts info_slot
  obtain ⟨cap, hc, hcap, hcm⟩ := h.c0
  have hn := h.ok.hi
  have hct := h.ct
  have hdt := h.dt
  have hown : (w.alloc (.cells #[] 110)).ownsRow w.heap.size 110 2 (.slice (some ⟨w.heap.size, 0, none⟩) 0 0) 0 [] := World.ownsRow_lit w #[] 0 (Nat.le_refl _) (by decide) rfl
  have HO := Lib.hid hown
  have H := Lib.hid h
  clear h hown
  go_enter Try.func57, Try.ntmps57
  go_wp2_with (first
    | (go_at_call 66; refine (rvalid_yes _ _ _ _ H.out).mono ?_; rintro e w' ⟨rfl, rfl⟩)
    | (at_builtin; refine wpList_append_own _ rfl _ _ 106 rfl w.heap.size 110 i0 (.agg #[.int .i64 0, .int .u32 0]) 2 16 Try.underlying106 hi hz0 hz1 hz2 rfl (by decide) _ _ _ rfl HO.out ⟨d, 0, none⟩ T.n cap (pairs (duos T T.n)) rfl ?c0 ?c1 ?c2 ?c3 ?c4 ?c5 ?_))
  case c0 => rw [pairs_len, duos_len]
  case c1 =>
    intro j u hj
    have hjl := (List.getElem?_eq_some_iff.1 hj).1
    rw [pairs_len, duos_len] at hjl
    have hi2 : j / 2 < T.n := by omega
    have hp := pairs_at (duos T T.n) (j / 2) _ (duos_at T hi2)
    have e : (⟨d, 0, none⟩ : Addr).add j = ⟨d, j, none⟩ := by unfold Addr.add; split <;> simp_all
    rw [e, World.cell?_alloc_lt _ _ _ hdt]
    by_cases ej : j % 2 = 0
    · have e2 : j = j / 2 * 2 := by omega
      rw [e2] at hj ⊢
      rw [H.out.cs hi2, ← hj, hp.1]
    · have e2 : j = j / 2 * 2 + 1 := by omega
      rw [e2] at hj ⊢
      have e3 : (j / 2 * 2 + 1) / 2 = j / 2 := by omega
      rw [H.out.cg hi2, ← hj, hp.2]
  case c2 =>
    intro u hu
    obtain ⟨r, _, hr⟩ := List.mem_flatMap.1 hu
    simp at hr
    rcases hr with rfl | rfl <;> rfl
  case c3 => unfold maxLen; omega
  case c4 => omega
  case c5 => simp
  intro v' w1 hown' hgrow _
  have HV := Lib.hid hown'
  have HB := Lib.hid (((Below.refl _ w).alloc (Nat.le_refl _) (.cells #[] 110)).grown hgrow (by simp) (fun k hk => by simp [Value.ownBlock] at hk; omega))
  have hlo := H.out.ok.lo
  have hv : ∃ g' c', v' = .slice (some ⟨g', 0, none⟩) T.n c' := by
    rcases hown'.2 with ⟨_, h0⟩ | ⟨g, cap', _, e, _⟩
    · omega
    · exact ⟨g, cap', e⟩
  obtain ⟨g', c', rfl⟩ := hv
  have hal : Below w1.heap.size w1 (w1.alloc (.cells #[.slice (some ⟨g', 0, none⟩) T.n c'] 108)) := (Below.refl _ w1).alloc (Nat.le_refl _) _
  obtain ⟨d2, hd2, hR⟩ := refW_of_own (c := w1.heap.size) H.out.ok rfl (Bk.new w1 108 #[.slice (some ⟨g', 0, none⟩) T.n c']) (own_below HV.out hal)
  have HR := Lib.hid hR
  have HD := Lib.hid hd2
  have HF := Lib.hid (bel2 HB.out hal)
  have HS := Lib.hid HB.out.size
  clear hown' hgrow hR hd2 hal HV
  go_wp2
  go_ret
  exact ⟨w1.heap.size, d2, rfl, HS.out, HD.out, HR.out, HF.out⟩
end Go.Proofs.Ytfemfgpciogbeaa
