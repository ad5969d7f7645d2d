/- The contracts of the document's All, Len, Left, Same. -/
import Derived.Test.YtfnhkapbfgofkaaWcb
import Derived.Test.YtfnhkapbfgofkaaWl
namespace Go.Proofs.Ytfnhkapbfgofkaa
open Go.RowKit

/-- The names of the slots below i that are held. -/
def Hp.upto (H : Hp) (i : Nat) : List Rf := (sel H.t.s 1 i).map fun (j : Nat) => ((j : Int), (H.t.g j : Int))
theorem rcls_pairs (L : List (Nat × Nat)) : rcls (L.map ro) = pairs L := by
  unfold rcls pairs
  rw [List.flatMap_map]
  rfl
theorem hupto_all (H : Hp) : H.upto H.t.n = H.t.now.map ro := by simp [Hp.upto, Tb.now, Tb.held, Tb.refs, ro, Function.comp_def]
theorem hupto_yes {H : Hp} {i : Nat} (h : H.t.s i = 1) : H.upto (i + 1) = H.upto i ++ [((i : Int), (H.t.g i : Int))] := by
  unfold Hp.upto; rw [sel_snoc, if_pos h, List.map_append]; rfl
theorem hupto_no {H : Hp} {i : Nat} (h : H.t.s i ≠ 1) : H.upto (i + 1) = H.upto i := by
  unfold Hp.upto; rw [sel_snoc, if_neg h, List.append_nil]
theorem hupto_len (H : Hp) (i : Nat) : (H.upto i).length ≤ i := by
  unfold Hp.upto; rw [List.length_map]; exact sel_len _ _ _
set_option maxHeartbeats 4000000 in
theorem dh_all (c d : Nat) (H : Hp) (w : World) (h : EW w c d H) : Calls Try.prog 57 #[.pointer (some ⟨c, 0, none⟩)] w fun e w' => ∃ p c', e = .returned (.slice p H.t.now.length c') ∧ w'.ownsRow w.heap.size 34 2 (.slice p H.t.now.length c') H.t.now.length (pairs H.t.now) ∧ Below w.heap.size w w' := by
  obtain ⟨n, hn⟩ : ∃ n, H.t.n = n := ⟨_, rfl⟩
  have hnb : n ≤ 256 := by rw [← hn]; exact h.ok.t.hi
  have HN := Lib.hid hn
  have HD0 := Lib.hid h
  have O0 : Hid (w.ownsRow w.heap.size 34 2 (.slice none 0 0) (H.upto 0).length (rcls (H.upto 0))) := World.ownsRow_nil _ _ _ _
  clear h hn
  go_enter Try.func57, Try.ntmps57
  go_wp2
  go_loopw [3, 4] (fun v u wr => ∃ i q p c', i ≤ n ∧ v = .slice p q c' ∧ u = .int .i64 (i : Nat) ∧ Hid ((H.upto i).length = q) ∧ Hid (wr.ownsRow w.heap.size 34 2 (.slice p q c') (H.upto i).length (rcls (H.upto i))) ∧ Hid (Below w.heap.size w wr)) (fun _ u _ => n - (intOf u).toNat)
  case atStart => exact ⟨0, 0, none, 0, Nat.zero_le _, rfl, rfl, rfl, O0.out, Below.refl _ _⟩
  case round =>
    clear O0
    obtain ⟨i, q, p, c', hi, rfl, rfl, HQ, HO, HB⟩ := hrel
    have HD := Lib.hid (HD0.out.below HB.out)
    have HV := Lib.hid (dh_valid c d H wr HD.out)
    obtain ⟨cap, c0, c1, hc1, hc2⟩ := HD.out.c0
    rw [HN.out] at c1 hc1
    clear c0
    by_cases hlt : i < n
    · obtain ⟨i0, i1, i2⟩ := HD.out.ci (i := i) (by rw [HN.out]; exact hlt)
      have hgm : H.t.g i ≤ 4294967295 := HD.out.ok.t.gm i
      clear i1
      by_cases hs : H.t.s i = 1
      · have hu := hupto_yes hs
        have hql : q ≤ 256 := by have := hupto_len H i; have := HQ.out; omega
        have hb2 : w.heap.size ≤ wr.heap.size := HB.out.size
        rw [hs] at i0
        have j0 : wr.cell? ⟨d, i * 13, none⟩ = some (.bool true) := i0
        have HU := Lib.hid hu
        clear i0 hs hu
        generalize H.t.g i = fg at *
        go_upto_region 6 with (go_at_call 38; (with_reducible refine HV.out.mono ?_); rintro e w2 ⟨rfl, rfl⟩)
        go_wp2_with (at_builtin; refine wpList_app_r rfl _ _ rfl (((i : Nat) : Int), ((fg : Nat) : Int)) rfl rfl HQ.out (HO.out.alloc _) (Bk.new wr 34 #[.int .i64 i, .int .u32 fg]) (by rw [HQ.out]; omega) (by simp; omega) ?_)
        intro p' c2 w8 HA
        have HF : Hid (w8.ownsRow w.heap.size 34 2 (.slice p' (q + 1) c2) (H.upto (i + 1)).length (rcls (H.upto (i + 1))) ∧ (H.upto (i + 1)).length = q + 1 ∧ Below w.heap.size w w8) := by
          obtain ⟨h1, h2⟩ := HA.out
          rw [← show H.upto (i + 1) = H.upto i ++ [((i : Int), (fg : Int))] from HU.out] at h1
          refine ⟨h1, by rw [HU.out, List.length_append, HQ.out]; rfl, (HB.out.alloc hb2 _).trans (h2.below (by simp; omega) fun g e => (HO.out.lt g e).1)⟩
        clear HA
        go_wp2
        go_roundw
        case rel => exact ⟨i + 1, q + 1, p', c2, by omega, rfl, by go_num, HF.out.2.1, HF.out.1, HF.out.2.2⟩
        case measure => simp [intOf]; omega
      · have hu := hupto_no hs
        have hb : (H.t.s i == 1) = false := by simp [hs]
        rw [hb] at i0
        have HU := Lib.hid hu
        clear hs hu hb
        go_wp2_with (go_at_call 38; (with_reducible refine HV.out.mono ?_); rintro e w2 ⟨rfl, rfl⟩)
        go_roundw
        case rel => exact ⟨i + 1, q, p, c', by omega, rfl, by go_num, by rw [HU.out]; exact HQ.out, by rw [HU.out]; exact HO.out, HB.out⟩
        case measure => simp [intOf]; omega
    · obtain rfl : i = n := by omega
      go_wp2_with (go_at_call 38; (with_reducible refine HV.out.mono ?_); rintro e w2 ⟨rfl, rfl⟩)
      go_ret
      have e : H.upto i = H.t.now.map ro := by rw [← HN.out]; exact hupto_all H
      have hq := HQ.out
      have ho := HO.out
      rw [e, List.length_map] at hq ho
      rw [rcls_pairs] at ho
      subst hq
      exact ⟨p, c', rfl, ho, HB.out⟩
theorem dh_len (c d : Nat) (H : Hp) (n : Nat) (hn : H.t.held.length = n) (w : World) (h : EW w c d H) : Calls Try.prog 54 #[.pointer (some ⟨c, 0, none⟩)] w fun e w' => e = .returned (.int .i64 n) ∧ Below w.heap.size w w' := by
  have AL := Lib.hid (dh_all c d H w h)
  have hl := H.t.now_len
  rw [hn] at hl
  rw [hl] at AL
  clear h hn hl
  go_enter Try.func54, Try.ntmps54
  go_wp2_with (go_at_call 57; refine AL.out.mono ?_; rintro e w1 ⟨p, c', rfl, _, hb1⟩; have HB := Lib.hid hb1; clear hb1)
  go_ret
  exact ⟨rfl, HB.out⟩
set_option maxHeartbeats 4000000 in
theorem dh_left (c d : Nat) (H : Hp) (m : Nat) (hm : H.t.free.length = m) (w : World) (h : EW w c d H) : Calls Try.prog 55 #[.pointer (some ⟨c, 0, none⟩)] w fun e w' => e = .returned (.int .i64 m) ∧ Below w.heap.size w w' := by
  obtain ⟨n, hn⟩ : ∃ n, H.t.n = n := ⟨_, rfl⟩
  have hnb : n ≤ 256 := by rw [← hn]; exact h.ok.t.hi
  have HN := Lib.hid hn
  have HD := Lib.hid h
  have HMm := Lib.hid hm
  have HV := Lib.hid (dh_valid c d H w h)
  clear h hn hm
  go_enter Try.func55, Try.ntmps55
  go_wp2
  go_loopw [3, 4] (fun v u wr => ∃ i q : Nat, i ≤ n ∧ v = .int .i64 q ∧ u = .int .i64 i ∧ Hid ((sel H.t.s 0 i).length = q) ∧ w = wr) (fun _ u _ => n - (intOf u).toNat)
  case atStart => exact ⟨0, 0, Nat.zero_le _, rfl, rfl, rfl, rfl⟩
  case round =>
    obtain ⟨i, q, hi, rfl, rfl, HQ, rfl⟩ := hrel
    obtain ⟨cap, c0, c1, hc1, hc2⟩ := HD.out.c0
    rw [HN.out] at c1 hc1
    clear c0
    have hql : q ≤ 256 := by have := sel_len H.t.s 0 i; have := HQ.out; omega
    have hwi : IntKind.i64.wrap ((i : Int) + 1) = (i : Int) + 1 := by rw [IntKind.wrap_i64]; omega
    have hwq : IntKind.i64.wrap ((q : Int) + 1) = (q : Int) + 1 := by rw [IntKind.wrap_i64]; omega
    by_cases hlt : i < n
    · obtain ⟨i0, i1, i2⟩ := HD.out.ci (i := i) (by rw [HN.out]; exact hlt)
      have hst : H.t.s i = 0 ∨ H.t.s i = 1 ∨ H.t.s i = 2 := by have := HD.out.ok.t.st i; omega
      clear i2
      have HS : Hid ((sel H.t.s 0 (i + 1)).length = q + if H.t.s i = 0 then 1 else 0) := by
        have h1 := HQ.out
        have h2 : (sel H.t.s 0 (i + 1)).length = (sel H.t.s 0 i).length + if H.t.s i = 0 then 1 else 0 := by
          rw [sel_snoc, List.length_append]
          split <;> rfl
        exact h2.trans (by rw [h1])
      rcases hst with e | e | e
      · rw [e] at i0 i1 HS
        have j0 : w.cell? ⟨d, i * 13, none⟩ = some (.bool false) := i0
        have j1 : w.cell? ⟨d, i * 13 + 1, none⟩ = some (.bool false) := i1
        rw [if_pos rfl] at HS
        clear i0 i1 e
        go_wp2_with (go_at_call 38; (with_reducible refine HV.out.mono ?_); rintro e w2 ⟨rfl, rfl⟩)
        go_roundw
        case rel => exact ⟨i + 1, q + 1, by omega, by go_num, by go_num, HS.out, trivial⟩
        case measure => simp [intOf]; omega
      · rw [e] at i0 i1 HS
        have j0 : w.cell? ⟨d, i * 13, none⟩ = some (.bool true) := i0
        have j1 : w.cell? ⟨d, i * 13 + 1, none⟩ = some (.bool false) := i1
        rw [if_neg (by decide)] at HS
        clear i0 i1 e
        go_wp2_with (go_at_call 38; (with_reducible refine HV.out.mono ?_); rintro e w2 ⟨rfl, rfl⟩)
        go_roundw
        case rel => exact ⟨i + 1, q, by omega, rfl, by go_num, HS.out, trivial⟩
        case measure => simp [intOf]; omega
      · rw [e] at i0 i1 HS
        have j0 : w.cell? ⟨d, i * 13, none⟩ = some (.bool false) := i0
        have j1 : w.cell? ⟨d, i * 13 + 1, none⟩ = some (.bool true) := i1
        rw [if_neg (by decide)] at HS
        clear i0 i1 e
        go_wp2_with (go_at_call 38; (with_reducible refine HV.out.mono ?_); rintro e w2 ⟨rfl, rfl⟩)
        go_roundw
        case rel => exact ⟨i + 1, q, by omega, rfl, by go_num, HS.out, trivial⟩
        case measure => simp [intOf]; omega
    · obtain rfl : i = n := by omega
      obtain rfl : q = m := by
        rw [← HQ.out, ← HMm.out, ← HN.out]; rfl
      go_wp2_with (go_at_call 38; (with_reducible refine HV.out.mono ?_); rintro e w2 ⟨rfl, rfl⟩)
      go_ret
      exact ⟨rfl, Below.refl _ _⟩
/-- The slice reads as the names L. -/
def RdL (w : World) (p : Option Addr) (c : Nat) (L : List (Nat × Nat)) : Prop := 0 < L.length → ∃ g, p = some ⟨g, 0, none⟩ ∧ L.length ≤ c ∧ c ≤ 9223372036854775807 ∧ ∀ j r, L[j]? = some r → w.cell? ⟨g, j * 2, none⟩ = some (.int .i64 r.1) ∧ w.cell? ⟨g, j * 2 + 1, none⟩ = some (.int .u32 r.2)
theorem RdL.below {w w' : World} {p : Option Addr} {c : Nat} {L : List (Nat × Nat)} (h : RdL w p c L) (d : Below w.heap.size w w') : RdL w' p c L := fun h0 => by
  obtain ⟨g, h1, h2, h3, h4⟩ := h h0
  exact ⟨g, h1, h2, h3, fun j r hj => ⟨cell_stays d (h4 j r hj).1, cell_stays d (h4 j r hj).2⟩⟩
theorem rdl_row {w : World} {base : Nat} {p : Option Addr} {c : Nat} {L : List (Nat × Nat)} (h : w.ownsRow base 34 2 (.slice p L.length c) L.length (pairs L)) : RdL w p c L := fun h0 => by
  obtain ⟨g, h1, h2, h3, _, _, h4⟩ := row_at h rfl h0
  exact ⟨g, h1, h2, h3, h4⟩
set_option maxHeartbeats 4000000 in
theorem dh_same (p q : Option Addr) (c c' n : Nat) (L : List (Nat × Nat)) (hn : L.length = n) (hb : n ≤ 1000) (w : World) (h1 : RdL w p c L) (h2 : RdL w q c' L) : Calls Try.prog 56 #[.slice p n c, .slice q n c'] w fun e w' => e = .returned (.bool true) ∧ Below w.heap.size w w' := by
  have H1 := Lib.hid h1
  have H2 := Lib.hid h2
  have HL := Lib.hid hn
  clear h1 h2 hn
  go_enter Try.func56, Try.ntmps56
  go_wp2
  go_loopw [5] (fun v wr => ∃ i : Nat, i ≤ n ∧ v = .int .i64 i ∧ Hid (Below w.heap.size w wr)) (fun v _ => n - (intOf v).toNat)
  case atStart => exact ⟨0, Nat.zero_le _, rfl, Below.refl _ _⟩
  case round =>
    obtain ⟨i, hi, rfl, HB⟩ := hrel
    obtain ⟨wi, hwi⟩ : ∃ wi, wi = wr := ⟨_, rfl⟩
    subst hwi
    by_cases hlt : i < n
    · obtain ⟨r, hr⟩ : ∃ r, L[i]? = some r := ⟨_, List.getElem?_eq_getElem (by rw [HL.out]; exact hlt)⟩
      obtain ⟨g, rfl, ha1, ha2, ha3⟩ := H1.out.below HB.out (by rw [HL.out]; omega)
      obtain ⟨g', rfl, hb1, hb2, hb3⟩ := H2.out.below HB.out (by rw [HL.out]; omega)
      rw [HL.out] at ha1 hb1
      obtain ⟨x0, x1⟩ := ha3 i r hr
      obtain ⟨y0, y1⟩ := hb3 i r hr
      have hwi1 : IntKind.i64.wrap ((i : Int) + 1) = (i : Int) + 1 := by rw [IntKind.wrap_i64]; omega
      clear ha3 hb3 hr
      obtain ⟨r1, r2⟩ := r
      simp only at x0 x1 y0 y1
      go_upto_region 6 with fail
      go_quiet (fail)
      go_wp2
      go_roundw
      case rel => exact ⟨i + 1, by omega, by go_num, dh_tr HB.out (bel_drn _ _)⟩
      case measure => simp [intOf]; omega
    · obtain rfl : i = n := by omega
      go_wp2
      go_ret
      exact ⟨rfl, HB.out⟩
end Go.Proofs.Ytfnhkapbfgofkaa
