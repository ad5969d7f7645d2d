/- The contract of the program's Open. -/
import Derived.Test.YthahmcipkchdjaaFg
import Derived.Laws.ResultCell
namespace Go.Proofs.Ythahmcipkchdjaa
open Go.RowKit

theorem Kept.thenB' {S : Nat → Prop} {a b c : World} (h : Kept S a b) (k : Below b.heap.size b c) : Kept S a c := h.trans (Kept.of_below k)
/-- Three cells of a block that are stored anew. -/
theorem put3 {w : World} {g : Nat} {t : TypeId} {a b c : Value} (h : Bk w g t #[a, b, c]) (x y z : Value) :
    Bk (((w.setCell ⟨g, 0, none⟩ x).setCell ⟨g, 1, none⟩ y).setCell ⟨g, 2, none⟩ z) g t #[x, y, z] ∧ Kept (· = g) w (((w.setCell ⟨g, 0, none⟩ x).setCell ⟨g, 1, none⟩ y).setCell ⟨g, 2, none⟩ z) :=
  ⟨((h.put 0 x).put 1 y).put 2 z, (((Kept.refl _ w).put1 0 x).put1 1 y).put1 2 z⟩
theorem keep_new {S : Nat → Prop} {a b c : World} (h : Kept S a b) (k : Kept (· = a.heap.size) b c) : Kept S a c :=
  ⟨k.os.trans h.os, k.tape.trans h.tape, k.output.trans h.output, Nat.le_trans h.size k.size, fun i hi hs => (k.block i (Nat.lt_of_lt_of_le hi h.size) (by omega)).trans (h.block i hi hs)⟩
/-- Open's end: what its result's cell holds is returned. -/
theorem open_ret {B : Nat} {E : Int} {W : World} {x y z : Value} {P : Ending → World → Prop} {a : Act} (hN : Bk W B 25 #[x, y, z]) (h4 : a.tmps[4]? = some (.pointer (some ⟨B, 0, none⟩))) (h5 : a.tmps[5]? = some (.int .i64 E)) (hd : a.defers = [])
    (hP : P (.returned (.tuple #[.agg #[x, y, z], .int .i64 E])) W) : bodyPost Try.prog Try.f14 P Exit.ret a W := by
  have c0 : W.cell? ⟨B, 0, none⟩ = some x := hN.cell 0
  have c1 : W.cell? ⟨B, 1, none⟩ = some y := hN.cell 1
  have c2 : W.cell? ⟨B, 2, none⟩ = some z := hN.cell 2
  have e4 : a.tmps.getD 4 undef = .pointer (some ⟨B, 0, none⟩) := by rw [Array.getD_eq_getD_getElem?, h4]; rfl
  have e5 : a.tmps.getD 5 undef = .int .i64 E := by rw [Array.getD_eq_getD_getElem?, h5]; rfl
  refine bodyPost_ret (v := .tuple #[.agg #[x, y, z], .int .i64 E]) ?_ hd hP
  rw [results_cell_tmp rfl, e4, e5]
  go_simp
set_option maxHeartbeats 1000000 in
theorem fopen_inv (p : Option Addr) (x : Int) (w : World) (h : FInv w p) : Calls Try.prog 14 #[.pointer p, .int .i64 x] w fun e w' => e = .returned (.tuple #[.agg #[.int .i64 0, .int .i64 0, .int .u32 0], .int .i64 1]) ∧ Below w.heap.size w w' := by
  have H := Lib.hid (h.below ((Below.refl _ w).alloc (Nat.le_refl _) (.cells #[.int .i64 0, .int .i64 0, .int .u32 0] 25)))
  clear h
  go_enter Try.func14, Try.ntmps14
  go_wp2_with (go_at_call 34; refine (fvalid_no _ _ H.out).mono ?_; rintro e w' ⟨rfl, rfl⟩)
  refine bodyPost_ret (v := .tuple #[.agg #[.int .i64 0, .int .i64 0, .int .u32 0], .int .i64 1]) (by simp [results, Try.results14, go_sem]) rfl ⟨rfl, ?_⟩
  exact (Below.refl _ w).alloc (Nat.le_refl _) _
theorem fopen_arg (b k m : Nat) (F : Fb) (x : Int) (hx : I64 x) (hx2 : x < 0 ∨ 65535 < x) (w : World) (h : FW w b k m F) : Calls Try.prog 14 #[.pointer (some ⟨b, 0, none⟩), .int .i64 x] w fun e w' => e = .returned (.tuple #[.agg #[.int .i64 0, .int .i64 0, .int .u32 0], .int .i64 2]) ∧ Below w.heap.size w w' := by
  have hc := h.c0
  obtain ⟨x0, x1⟩ := hx
  clear h
  rcases hx2 with hx2 | hx2
  all_goals
    go_enter Try.func14, Try.ntmps14
    go_wp2_with (go_at_call 34; refine (fvalid_yes _ k _ (cell_keeps ((Below.refl _ w).alloc (Nat.le_refl _) _) hc)).mono ?_; rintro e w' ⟨rfl, rfl⟩)
    refine bodyPost_ret (v := .tuple #[.agg #[.int .i64 0, .int .i64 0, .int .u32 0], .int .i64 2]) (by simp [results, Try.results14, go_sem]) rfl ⟨rfl, ?_⟩
    exact (Below.refl _ w).alloc (Nat.le_refl _) _
set_option maxHeartbeats 1000000 in
theorem fopen_full (b k m x : Nat) (F : Fb) (hx : x ≤ 65535) (hf : F.t.free = []) (w : World) (h : FW w b k m F) : Calls Try.prog 14 #[.pointer (some ⟨b, 0, none⟩), .int .i64 x] w fun e w' => e = .returned (.tuple #[.agg #[.int .i64 0, .int .i64 0, .int .u32 0], .int .i64 4]) ∧ FW w' b k m F ∧ Kept (FFoot b k m) w w' := by
  have hc := h.c0
  have hkl := h.tab.bt
  have TK : Hid (∀ W, Below w.heap.size w W → Calls Try.prog 35 #[.pointer (some ⟨k, 0, none⟩)] W fun e w' => e = .returned (.tuple #[.agg #[.int .i64 0, .int .u32 0], .int .i64 4]) ∧ Hid (FW w' b k m F ∧ Kept (FFoot b k m) w w') ∧ Kept (· = k) W w') := fun W hW => by
    refine (take_ok k F.t W (h.below hW).tab).mono ?_
    rintro e w' ⟨rfl, h1, h2⟩
    have e1 : F.t.take = F.t := by unfold Tb.take; rw [hf]
    have e2 : F.t.tI = 0 := by unfold Tb.tI; rw [hf]
    have e3 : F.t.tG = 0 := by unfold Tb.tG; rw [hf]
    have e4 : F.t.tE = 4 := by unfold Tb.tE; rw [hf]
    rw [e1] at h1
    have hw := h.below hW
    exact ⟨by rw [e2, e3, e4]; rfl, ⟨⟨hw.ok, hw.hb.kept h2 hw.bk, h1, hw.map.same (h2.block m hw.map.lt fun e => hw.km e.symm)⟩, (Kept.of_below hW).trans (h2.mono fun g _ e => .inr (.inl e))⟩, h2⟩
  have h0 := fun g hg => h.foot_lt (g := g) hg
  have hx' : ¬ 65535 < (x : Int) := by omega
  have hx'' : ¬ (x : Int) < 0 := by omega
  have FIN : Hid (∀ W W' : World, FW W b k m F ∧ Kept (FFoot b k m) w W → Below W.heap.size W W' → FW W' b k m F ∧ Kept (FFoot b k m) w W') := fun W W' h1 h2 => ⟨h1.1.below h2, h1.2.thenB' h2⟩
  clear h hf
  go_enter Try.func14, Try.ntmps14
  go_wp2_with (first
    | (go_at_call 34; refine (fvalid_yes _ k _ (cell_keeps ((Below.refl _ w).alloc (Nat.le_refl _) _) hc)).mono ?_; rintro e w' ⟨rfl, rfl⟩; have hq := cell_keeps ((Below.refl _ w).alloc (Nat.le_refl _) (.cells #[.int .i64 0, .int .i64 0, .int .u32 0] 25)) hc)
    | (go_at_call 35; refine (TK.out _ ((Below.refl _ w).alloc (Nat.le_refl _) _)).mono ?_; rintro e w5 ⟨rfl, HF, hk5⟩; have hn := (Bk.new w 25 #[.int .i64 0, .int .i64 0, .int .u32 0]).kept hk5 (by omega); have z0 : w5.cell? ⟨w.heap.size, 0, none⟩ = some (.int .i64 0) := hn.cell 0; have z1 : w5.cell? ⟨w.heap.size, 1, none⟩ = some (.int .i64 0) := hn.cell 1; have z2 : w5.cell? ⟨w.heap.size, 2, none⟩ = some (.int .u32 0) := hn.cell 2; have f0 := hn.frozen 0; have f1 := hn.frozen 1; have f2 := hn.frozen 2; have hl5 := hn.lt; have HN := Lib.hid hn; clear hk5 hn))
  obtain ⟨hF, hK⟩ := HF.out
  obtain ⟨hN, hK6⟩ := put3 HN.out (.int .i64 0) (.int .i64 0) (.int .u32 0)
  have hF6 := hF.kept hK6 (fun g hg e => by have := h0 g hg; omega)
  have hK7 := keep_new hK hK6
  generalize ((w5.setCell ⟨w.heap.size, 0, none⟩ (.int .i64 0)).setCell ⟨w.heap.size, 1, none⟩ (.int .i64 0)).setCell ⟨w.heap.size, 2, none⟩ (.int .u32 0) = w6 at *
  exact open_ret (hN.up _) rfl rfl rfl ⟨rfl, hF6.below ((Below.refl _ _).alloc (Nat.le_refl _) _), hK7.alloc _⟩

/-- A file that was taken, and is put into the map. -/
theorem fopen_fin {w W W8 : World} {b k m i x : Nat} {F : Fb} (h : FW w b k m F) (hx : x ≤ 65535) (hi : i < F.t.n) (hs : F.t.s i = 0) (hT : TabW W k (F.t.took i)) (hk : Kept (· = k) w W) (hb : Below W.heap.size W W8) :
    ∃ w9, (Instr.mapUpdate 49 (.map (some m)) (.agg #[.int .i64 1, .int .i64 i, .int .u32 (F.t.g i)]) (.int .i64 x)).run Try.prog W8 = .ok () w9 ∧ FW w9 b k m (F.opened i x) ∧ Kept (FFoot b k m) w w9 ∧ Kept (· = m) W8 w9 := by
  have hr : RgO 1 i (F.t.g i) := by
    have := h.ok.t.gm i
    have := h.ok.hi
    exact ⟨by omega, by omega, by omega, by omega, by omega, by omega⟩
  have hn : F.look 1 i (F.t.g i) = none := Fb.look_none fun e => by
    obtain ⟨_, j, hj, _, h2, _⟩ := Fb.chk_open e
    obtain rfl : i = j := by omega
    omega
  have hk8 : Kept (· = k) w W8 := hk.thenB' hb
  have m1 := h.map.same (hk8.block m h.map.lt (fun e => h.km e.symm))
  have hl := h.ok.held_len
  obtain ⟨w9, hrun, hm, hk2⟩ := m1.store hr (t := x) ⟨by omega, by omega⟩ hn (by unfold maxLen; omega)
  refine ⟨w9, hrun, ⟨h.ok.opened i hx, (h.hb.kept hk8 h.bk).kept hk2 h.bm, (hT.below hb).kept hk2 h.km, ?_⟩, ?_, hk2⟩
  · have e1 : (F.opened i x).t.held.length = F.t.held.length + 1 := held_opened hi hs
    rw [e1]
    refine hm.congr fun x' y z _ => ?_
    rw [Fb.look_opened h.ok hi hs]; rfl
  · exact (hk8.mono fun g _ e => .inr (.inl e)).trans (hk2.mono fun g _ e => .inr (.inr e))
set_option maxHeartbeats 1000000 in
theorem fopen_yes (b k m x i : Nat) (r : List Nat) (F : Fb) (hx : x ≤ 65535) (hf : F.t.free = i :: r) (w : World) (h : FW w b k m F) : Calls Try.prog 14 #[.pointer (some ⟨b, 0, none⟩), .int .i64 x] w fun e w' => e = .returned (.tuple #[.agg #[.int .i64 1, .int .i64 i, .int .u32 (F.t.g i)], .int .i64 0]) ∧ FW w' b k m (F.opened i x) ∧ Kept (FFoot b k m) w w' := by
  obtain ⟨hi, hs⟩ := Tb.free_lt hf
  have hc := h.c0
  have hkl := h.tab.bt
  have hml := h.map.lt
  have h0 := fun g hg => h.foot_lt (g := g) hg
  have hz1 := h.ok.t.gm i
  have hz0 := h.ok.hi
  obtain ⟨z, hz⟩ : ∃ z, F.t.g i = z := ⟨_, rfl⟩
  have TK : Hid (∀ W, Below w.heap.size w W → Calls Try.prog 35 #[.pointer (some ⟨k, 0, none⟩)] W fun e w' => e = .returned (.tuple #[.agg #[.int .i64 i, .int .u32 z], .int .i64 0]) ∧ Hid (TabW w' k (F.t.took i)) ∧ Kept (· = k) W w') := fun W hW => by
    refine (take_ok k F.t W (h.below hW).tab).mono ?_
    rintro e w' ⟨rfl, h1, h2⟩
    have e1 : F.t.take = F.t.took i := by unfold Tb.take; rw [hf]
    have e2 : F.t.tI = i := by unfold Tb.tI; rw [hf]
    have e3 : F.t.tG = z := by unfold Tb.tG; rw [hf]; exact hz
    have e4 : F.t.tE = 0 := by unfold Tb.tE; rw [hf]
    rw [e1] at h1
    exact ⟨by rw [e2, e3, e4], h1, h2⟩
  have UP : Hid (∀ W W5 W8 : World, Below w.heap.size w W → TabW W5 k (F.t.took i) → Kept (· = k) W W5 → Below W5.heap.size W5 W8 → W8.cell? ⟨b, 1, none⟩ = some (.map (some m)) ∧ ∃ w9, (Instr.mapUpdate 49 (.map (some m)) (.agg #[.int .i64 1, .int .i64 i, .int .u32 z]) (.int .i64 x)).run Try.prog W8.drew = .ok () w9 ∧ Hid (FW w9 b k m (F.opened i x) ∧ Kept (FFoot b k m) w w9) ∧ Kept (· = m) W8 w9) := fun W W5 W8 hW hT hk hb => by
    have := fopen_fin (h.below hW) hx hi hs hT hk (bel_drew hb)
    rw [hz] at this
    obtain ⟨w9, e1, e2, e3, e4⟩ := this
    refine ⟨?_, w9, e1, ⟨e2, (Kept.of_below hW).trans e3⟩, ⟨e4.os, e4.tape, e4.output, e4.size, e4.block⟩⟩
    have := ((h.below hW).hb.kept hk h.bk).below hb
    exact this.cell 1
  have hx' : ¬ 65535 < (x : Int) := by omega
  have hx'' : ¬ (x : Int) < 0 := by omega
  rw [hz] at hz1 ⊢
  have hin : i ≤ 64 := by omega
  clear h hf hz hi hs hz0
  go_enter Try.func14, Try.ntmps14
  go_wp2_with (first
    | (go_at_call 34; refine (fvalid_yes _ k _ (cell_keeps ((Below.refl _ w).alloc (Nat.le_refl _) _) hc)).mono ?_; rintro e w' ⟨rfl, rfl⟩; have hq := cell_keeps ((Below.refl _ w).alloc (Nat.le_refl _) (.cells #[.int .i64 0, .int .i64 0, .int .u32 0] 25)) hc)
    | (go_at_call 35; refine (TK.out _ ((Below.refl _ w).alloc (Nat.le_refl _) _)).mono ?_; rintro e w5 ⟨rfl, HT, hk5⟩; have HN := Lib.hid ((Bk.new w 25 #[.int .i64 0, .int .i64 0, .int .u32 0]).kept hk5 (by omega)); have HK := Lib.hid hk5; clear hk5)
    | (go_at_call 36; refine (file_ok _ _ _ (by omega) (by omega) (by omega) (by omega)).mono ?_; rintro e w7 ⟨rfl, hb7⟩; have HB7 := Lib.hid ((Below.refl _ w5).alloc (Nat.le_refl _) _ |>.trans (hb7.mono (by simp))); clear hb7))
  have hlw7 : w5.heap.size ≤ w7.heap.size := HB7.out.size
  have hl5 : w.heap.size < w5.heap.size := HN.out.lt
  obtain ⟨hm1, w9, hrun, HF, hk9⟩ := UP.out _ w5 (w7.alloc (.cells #[.int .i64 1, .int .i64 i, .int .u32 z] 25)) ((Below.refl _ w).alloc (Nat.le_refl _) _) HT.out HK.out (HB7.out.alloc (by omega) _)
  have hB := Bk.new w7 25 #[.int .i64 1, .int .i64 i, .int .u32 z]
  have o0 : (w7.alloc (.cells #[.int .i64 1, .int .i64 i, .int .u32 z] 25)).cell? ⟨w7.heap.size, 0, none⟩ = some (.int .i64 1) := hB.cell 0
  have o1 : (w7.alloc (.cells #[.int .i64 1, .int .i64 i, .int .u32 z] 25)).cell? ⟨w7.heap.size, 1, none⟩ = some (.int .i64 i) := hB.cell 1
  have o2 : (w7.alloc (.cells #[.int .i64 1, .int .i64 i, .int .u32 z] 25)).cell? ⟨w7.heap.size, 2, none⟩ = some (.int .u32 z) := hB.cell 2
  have hB9 := hB.kept hk9 (by omega)
  have HN9 := Lib.hid ((((HN.out.below HB7.out).up (.cells #[.int .i64 1, .int .i64 i, .int .u32 z] 25))).kept hk9 (by omega))
  generalize w7.alloc (.cells #[.int .i64 1, .int .i64 i, .int .u32 z] 25) = w8 at *
  clear hB hk9 HT HK HN TK UP hq
  go_region
  have p0 : w9.cell? ⟨w7.heap.size, 0, none⟩ = some (.int .i64 1) := hB9.cell 0
  have p1 : w9.cell? ⟨w7.heap.size, 1, none⟩ = some (.int .i64 i) := hB9.cell 1
  have p2 : w9.cell? ⟨w7.heap.size, 2, none⟩ = some (.int .u32 z) := hB9.cell 2
  have z0 : w9.cell? ⟨w.heap.size, 0, none⟩ = some (.int .i64 0) := HN9.out.cell 0
  have z1 : w9.cell? ⟨w.heap.size, 1, none⟩ = some (.int .i64 0) := HN9.out.cell 1
  have z2 : w9.cell? ⟨w.heap.size, 2, none⟩ = some (.int .u32 0) := HN9.out.cell 2
  have f0 := HN9.out.frozen 0
  have f1 := HN9.out.frozen 1
  have f2 := HN9.out.frozen 2
  clear hB9 hrun
  go_wp2
  obtain ⟨hF, hK⟩ := HF.out
  obtain ⟨hN, hK6⟩ := put3 HN9.out (.int .i64 1) (.int .i64 i) (.int .u32 z)
  have hF6 := hF.kept hK6 (fun g hg e => by have := h0 g hg; omega)
  have hK7 := keep_new hK hK6
  exact open_ret hN rfl rfl rfl ⟨rfl, hF6, hK7⟩

/-- What Open says of a table, and what it leaves. -/
def OpenP (b k m : Nat) (F : Fb) (x : Nat) (w : World) (e : Ending) (w' : World) : Prop := e = .returned (.tuple #[.agg #[.int .i64 F.oK, .int .i64 F.oI, .int .u32 F.oG], .int .i64 F.oE]) ∧ FW w' b k m (F.opn x) ∧ Kept (FFoot b k m) w w'
theorem fopen_ok (b k m x : Nat) (F : Fb) (hx : x ≤ 65535) (w : World) (h : FW w b k m F) : Calls Try.prog 14 #[.pointer (some ⟨b, 0, none⟩), .int .i64 x] w (OpenP b k m F x w) := by
  rcases hf : F.t.free with _ | ⟨i, r⟩
  · refine (fopen_full b k m x F hx hf w h).mono ?_
    rintro e w' ⟨rfl, h1, h2⟩
    unfold OpenP Fb.oK Fb.oI Fb.oG Fb.oE Fb.opn
    rw [hf]
    exact ⟨rfl, h1, h2⟩
  · refine (fopen_yes b k m x i r F hx hf w h).mono ?_
    rintro e w' ⟨rfl, h1, h2⟩
    unfold OpenP Fb.oK Fb.oI Fb.oG Fb.oE Fb.opn
    rw [hf]
    exact ⟨rfl, h1, h2⟩
end Go.Proofs.Ythahmcipkchdjaa
