/- The contract of the document's Open. -/
import Derived.Test.YthahmcipkchdjaaFt
import Derived.Laws.ResultCell
namespace Go.Proofs.Ythahmcipkchdjaa
open Go.RowKit

theorem ob3 {w : World} {A : Nat} {x y z : Value} (h : Bk w A 25 #[x, y, z]) : w.cell? ⟨A, 0, none⟩ = some x ∧ w.cell? ⟨A, 1, none⟩ = some y ∧ w.cell? ⟨A, 2, none⟩ = some z := ⟨h.cell 0, h.cell 1, h.cell 2⟩
theorem dopen_arg (c : Nat) (x : Int) (hx : I64 x) (hx2 : x < 0 ∨ 65535 < x) (w : World) : Calls Try.prog 15 #[.pointer (some ⟨c, 0, none⟩), .int .i64 x] w fun e w' => e = .returned (.tuple #[.agg #[.int .i64 0, .int .i64 0, .int .u32 0], .int .i64 2]) ∧ Below w.heap.size w w' := by
  obtain ⟨x0, x1⟩ := hx
  rcases hx2 with hx2 | hx2
  all_goals
    go_enter Try.func15, Try.ntmps15
    go_wp2
    refine bodyPost_ret (v := .tuple #[.agg #[.int .i64 0, .int .i64 0, .int .u32 0], .int .i64 2]) (by simp [results, Try.results15, go_sem]) rfl ⟨rfl, ?_⟩
    exact (Below.refl _ w).alloc (Nat.le_refl _) _
theorem dopen_ret {B : Nat} {E : Int} {W : World} {x y z : Value} {P : Ending → World → Prop} {a : Act} (hN : Bk W B 25 #[x, y, z]) (h4 : a.tmps[4]? = some (.pointer (some ⟨B, 0, none⟩))) (h5 : a.tmps[5]? = some (.int .i64 E)) (hd : a.defers = [])
    (hP : P (.returned (.tuple #[.agg #[x, y, z], .int .i64 E])) W) : bodyPost Try.prog Try.f15 P Exit.ret a W := by
  have c0 : W.cell? ⟨B, 0, none⟩ = some x := hN.cell 0
  have c1 : W.cell? ⟨B, 1, none⟩ = some y := hN.cell 1
  have c2 : W.cell? ⟨B, 2, none⟩ = some z := hN.cell 2
  have e4 : a.tmps.getD 4 undef = .pointer (some ⟨B, 0, none⟩) := by rw [Array.getD_eq_getD_getElem?, h4]; rfl
  have e5 : a.tmps.getD 5 undef = .int .i64 E := by rw [Array.getD_eq_getD_getElem?, h5]; rfl
  refine bodyPost_ret (v := .tuple #[.agg #[x, y, z], .int .i64 E]) ?_ hd hP
  rw [results_cell_tmp rfl, e4, e5]
  go_simp
/-- An id is taken in the document's table. -/
theorem DW.open {w : World} {c d i x : Nat} {F : Fb} (h : DW w c d F) (hi : i < F.t.n) (hs : F.t.s i = 0) (hx : x ≤ 65535) :
    DW ((w.setCell ⟨d, i * 4, none⟩ (.bool true)).setCell ⟨d, i * 4 + 3, none⟩ (.int .i64 x)) c d (F.opened i x) ∧ Kept (· = d) w ((w.setCell ⟨d, i * 4, none⟩ (.bool true)).setCell ⟨d, i * 4 + 3, none⟩ (.int .i64 x)) := by
  have hk : Kept (· = d) w ((w.setCell ⟨d, i * 4, none⟩ (.bool true)).setCell ⟨d, i * 4 + 3, none⟩ (.int .i64 x)) := ((Kept.refl _ w).put1 _ _).put1 _ _
  refine ⟨h.put hi (h.ok.opened i hx) rfl (fun j hj => ⟨put_other hj, rfl, put_other hj⟩) hk ?_, hk⟩
  obtain ⟨cap, cur, _, h2, h3, h4, _, h6⟩ := h.at_
  refine ⟨cur, h2, _, ((h2.put (i * 4) _).put (i * 4 + 3) _), by simp, fun k hk => ?_, fun q hq => ?_⟩
  · rw [Array.getElem?_setIfInBounds, if_neg (by omega), Array.getElem?_setIfInBounds, if_neg (by omega)]
  · have hsz : i * 4 + 4 ≤ cur.size := by rw [h3]; omega
    have h0 : i * 4 < cur.size := by omega
    have h3' : i * 4 + 3 < cur.size := by omega
    have e : dcl ((F.opened i x).t.s i) ((F.opened i x).t.g i) ((F.opened i x).num i) = [.bool true, .bool false, .int .u32 (F.t.g i), .int .i64 x] := by
      simp [Fb.opened, Tb.took, put_same, dcl]
    have h61 := h6 i hi 1 (by omega)
    have h62 := h6 i hi 2 (by omega)
    rw [hs] at h61 h62
    rw [e]
    match q, hq with
    | 0, _ => simp [h0]
    | 1, _ => rw [Array.getElem?_setIfInBounds, if_neg (by omega), Array.getElem?_setIfInBounds, if_neg (by omega), h61]; rfl
    | 2, _ => rw [Array.getElem?_setIfInBounds, if_neg (by omega), Array.getElem?_setIfInBounds, if_neg (by omega), h62]; rfl
    | 3, _ => simp [h3']

def DOpenP (c d : Nat) (F : Fb) (x : Nat) (w : World) (e : Ending) (w' : World) : Prop := e = .returned (.tuple #[.agg #[.int .i64 F.oK, .int .i64 F.oI, .int .u32 F.oG], .int .i64 F.oE]) ∧ DW w' c d (F.opn x) ∧ Kept (· = d) w w'
set_option maxHeartbeats 4000000 in
theorem dopen_ok (c d x : Nat) (F : Fb) (hx : x ≤ 65535) (w : World) (h : DW w c d F) : Calls Try.prog 15 #[.pointer (some ⟨c, 0, none⟩), .int .i64 x] w (DOpenP c d F x w) := by
  obtain ⟨n, hn⟩ : ∃ n, F.t.n = n := ⟨_, rfl⟩
  have hnb : n ≤ 64 := by rw [← hn]; exact h.ok.hi
  have hst := h.ok.t.st
  have hx' : ¬ 65535 < (x : Int) := by omega
  have hx'' : ¬ (x : Int) < 0 := by omega
  have hdl := h.dt
  have HN := Lib.hid hn
  have FULL : Hid ((∀ j, j < n → F.t.s j ≠ 0) → ∀ W, DW W c d F → Kept (· = d) w W → DOpenP c d F x w (.returned (.tuple #[.agg #[.int .i64 0, .int .i64 0, .int .u32 0], .int .i64 4])) W) := fun ha W h1 h2 => by
    obtain ⟨o1, o2, o3, o4, o5⟩ := Fb.opn_full (F := F) (free_none (T := F.t) (by rw [hn]; exact ha)) x
    unfold DOpenP
    rw [o1, o2, o3, o4, o5]
    exact ⟨rfl, h1, h2⟩
  have AT : Hid (∀ i, i < n → (∀ j, j < i → F.t.s j ≠ 0) → F.t.s i = 0 → ∀ W, DW W c d (F.opened i x) → Kept (· = d) w W → DOpenP c d F x w (.returned (.tuple #[.agg #[.int .i64 1, .int .i64 i, .int .u32 (F.t.g i)], .int .i64 0])) W) := fun i hi ha hs W h1 h2 => by
    obtain ⟨r, hr⟩ := free_head ha hs (by rw [hn]; exact hi)
    obtain ⟨o1, o2, o3, o4, o5⟩ := Fb.opn_at hr x
    unfold DOpenP
    rw [o1, o2, o3, o4, o5]
    exact ⟨rfl, h1, h2⟩
  have D0 : Hid (DW (w.alloc (.cells #[.int .i64 0, .int .i64 0, .int .u32 0] 25)) c d F) := h.below ((Below.refl _ w).alloc (Nat.le_refl _) _)
  have B0 : Hid (Bk (w.alloc (.cells #[.int .i64 0, .int .i64 0, .int .u32 0] 25)) w.heap.size 25 #[.int .i64 0, .int .i64 0, .int .u32 0]) := Bk.new w _ _
  have K0 : Hid (Below w.heap.size w (w.alloc (.cells #[.int .i64 0, .int .i64 0, .int .u32 0] 25))) := (Below.refl _ w).alloc (Nat.le_refl _) _
  clear h hn
  go_enter Try.func15, Try.ntmps15
  go_wp2
  generalize w.alloc (.cells #[.int .i64 0, .int .i64 0, .int .u32 0] 25) = w1 at *
  go_loopw [6] (fun u wr => ∃ i : Nat, i ≤ n ∧ u = .int .i64 i ∧ Hid (∀ j, j < i → F.t.s j ≠ 0) ∧ Hid (DW wr c d F) ∧ Hid (Bk wr w.heap.size 25 #[.int .i64 0, .int .i64 0, .int .u32 0]) ∧ Hid (Below w.heap.size w wr)) (fun u _ => n - (intOf u).toNat)
  case atStart => exact ⟨0, Nat.zero_le _, rfl, (fun j hj => absurd hj (Nat.not_lt_zero _) : ∀ j, j < 0 → F.t.s j ≠ 0), D0.out, B0.out, K0.out⟩
  case round =>
    clear D0 B0 K0
    obtain ⟨i, hi, rfl, HA, HD, HB, HK⟩ := hrel
    obtain ⟨cap, c0, hc1, hc2⟩ := HD.out.c0
    rw [HN.out] at c0 hc1
    by_cases hlt : i < n
    · obtain ⟨i0, i1, i2, i3⟩ := HD.out.ci (i := i) (by rw [HN.out]; exact hlt)
      have hsi := hst i
      have hs3 : F.t.s i = 0 ∨ F.t.s i = 1 ∨ F.t.s i = 2 := by omega
      clear hsi
      rcases hs3 with hs | hs | hs
      · rw [hs] at i0 i1
        have j0 : wr.cell? ⟨d, i * 4, none⟩ = some (.bool false) := i0
        have j1 : wr.cell? ⟨d, i * 4 + 1, none⟩ = some (.bool false) := i1
        have f0 := HD.out.fz (i * 4)
        have f3 := HD.out.fz (i * 4 + 3)
        have hne : w.heap.size ≠ d := by omega
        have AI := Lib.hid (AT.out i hlt HA.out hs)
        obtain ⟨g1, g2⟩ := HD.out.open (x := x) (i := i) (by rw [HN.out]; exact hlt) hs hx
        have GD := Lib.hid g1
        have GK := Lib.hid g2
        have GB := Lib.hid (HB.out.kept g2 hne)
        obtain ⟨k0, k1, k2⟩ := ob3 GB.out
        have kf0 := GB.out.frozen 0
        have kf1 := GB.out.frozen 1
        have kf2 := GB.out.frozen 2
        have hdd : d < wr.heap.size := HD.out.dt
        have hcd : c ≠ d := HD.out.ne
        have hcd2 : d ≠ c := fun e => hcd e.symm
        have hbc : w.heap.size ≠ c := fun e => by
          have h1 := HB.out.cell 0
          rw [e, c0] at h1
          cases h1
        clear i0 i1 g1 g2 hs
        generalize F.t.g i = fg at *
        obtain ⟨fx, hfx⟩ : ∃ fx, F.num i = fx := ⟨_, rfl⟩
        rw [hfx] at i3
        clear hfx
        go_wp2
        obtain ⟨hN, hK6⟩ := put3 GB.out (.int .i64 1) (.int .i64 i) (.int .u32 fg)
        refine dopen_ret hN rfl rfl rfl (AI.out _ (GD.out.kept hK6 (fun e => hbc e.symm) (fun e => hne e.symm)) ?_)
        have h1 : Kept (· = d) w wr := Kept.of_below HK.out
        exact keep_new (h1.trans GK.out) hK6
      · rw [hs] at i0 i1
        have j0 : wr.cell? ⟨d, i * 4, none⟩ = some (.bool true) := i0
        have HS : Hid (∀ j, j < i + 1 → F.t.s j ≠ 0) := fun j hj => by
          by_cases e : j = i
          · rw [e, hs]; omega
          · exact HA.out j (by omega)
        clear i0 i1 hs
        go_wp2
        go_roundw
        case rel => exact ⟨i + 1, by omega, by go_num, HS.out, HD.out, HB.out, HK.out⟩
        case measure => simp [intOf]; omega
      · rw [hs] at i0 i1
        have j0 : wr.cell? ⟨d, i * 4, none⟩ = some (.bool false) := i0
        have j1 : wr.cell? ⟨d, i * 4 + 1, none⟩ = some (.bool true) := i1
        have HS : Hid (∀ j, j < i + 1 → F.t.s j ≠ 0) := fun j hj => by
          by_cases e : j = i
          · rw [e, hs]; omega
          · exact HA.out j (by omega)
        clear i0 i1 hs
        go_wp2
        go_roundw
        case rel => exact ⟨i + 1, by omega, by go_num, HS.out, HD.out, HB.out, HK.out⟩
        case measure => simp [intOf]; omega
    · obtain rfl : i = n := by omega
      have FU := Lib.hid (FULL.out HA.out)
      obtain ⟨k0, k1, k2⟩ := ob3 HB.out
      have kf0 := HB.out.frozen 0
      have kf1 := HB.out.frozen 1
      have kf2 := HB.out.frozen 2
      have hbc : w.heap.size ≠ c := fun e => by
        have h1 := HB.out.cell 0
        rw [e, c0] at h1
        cases h1
      go_wp2
      obtain ⟨hN, hK6⟩ := put3 HB.out (.int .i64 0) (.int .i64 0) (.int .u32 0)
      refine dopen_ret hN rfl rfl rfl (FU.out _ (HD.out.kept hK6 (fun e => hbc e.symm) (fun e => by omega)) ?_)
      have h1 : Kept (· = d) w wr := Kept.of_below HK.out
      exact keep_new h1 hK6
end Go.Proofs.Ythahmcipkchdjaa
