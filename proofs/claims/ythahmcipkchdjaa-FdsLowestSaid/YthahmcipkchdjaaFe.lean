/- The contracts of the program's Close and Number, of found and the two closures that it calls. -/
import Derived.Test.YthahmcipkchdjaaFd
import Derived.Deep.RegionHeld3
import Derived.Shelf.RegionOpen
namespace Go.Proofs.Ythahmcipkchdjaa
open Go.RowKit

theorem IsFile.okn {k i g : Int} (h : IsFile k i g) (hr : RgO k i g) : k = 1 ∧ ∃ i' g' : Nat, i = i' ∧ g = g' ∧ Okn 64 1 i' g' := by
  obtain ⟨h1, h2, h3, h4⟩ := h
  have := hr.g0
  have := hr.g1
  exact ⟨h1, i.toNat, g.toNat, by omega, by omega, ⟨by omega, by omega, by omega, by omega, by omega⟩⟩
theorem not_file {k i g : Int} (h : ¬ IsFile k i g) (hr : RgO k i g) : Bad 64 k i g ∨ (k ≠ 1 ∧ ∃ k' i' g' : Nat, k = k' ∧ i = i' ∧ g = g' ∧ Okn 64 k' i' g') := by
  rcases ok_or (n := 64) hr with ⟨k', i', g', rfl, rfl, rfl, ho⟩ | hb
  · refine .inr ⟨fun e => h ⟨e, ?_, ?_, ?_⟩, k', i', g', rfl, rfl, rfl, ho⟩ <;> (have := ho.2.2.1; have := ho.2.2.2.1; omega)
  · exact .inl hb

theorem cell_keeps {w w' : World} (hb : Below w.heap.size w w') {p : Addr} {v : Value} (h : w.cell? p = some v) : w'.cell? p = some v := (hb.cell (World.block_lt_of_cell? _ _ h)).trans h
theorem box_o {w w2 : World} {x y z : Int} (hb : Below (w.alloc (.cells #[.int .i64 x, .int .i64 y, .int .u32 z] 25)).heap.size (w.alloc (.cells #[.int .i64 x, .int .i64 y, .int .u32 z] 25)) w2) :
    w2.cell? ⟨w.heap.size, 0, none⟩ = some (.int .i64 x) ∧ w2.cell? ⟨w.heap.size, 1, none⟩ = some (.int .i64 y) ∧ w2.cell? ⟨w.heap.size, 2, none⟩ = some (.int .u32 z) ∧ w.heap.size < w2.heap.size := by
  have h := (Bk.new w 25 #[.int .i64 x, .int .i64 y, .int .u32 z]).below hb
  exact ⟨h.cell 0, h.cell 1, h.cell 2, h.lt⟩
theorem bel_alloc {w W : World} (h : Below w.heap.size w W) (o : Obj) : Below w.heap.size w (W.alloc o) := h.alloc h.size _
/-! ### found -/
set_option maxHeartbeats 1000000 in
theorem found_inv (p : Option Addr) (x y z : Int) (fv : Value) (w : World) (h : FInv w p) : Calls Try.prog 37 #[.pointer p, .agg #[.int .i64 x, .int .i64 y, .int .u32 z], fv] w fun e w' => e = .returned (.int .i64 1) ∧ Below w.heap.size w w' := by
  have H := Lib.hid (h.below ((Below.refl _ w).alloc (Nat.le_refl _) (.cells #[.int .i64 x, .int .i64 y, .int .u32 z] 25)))
  clear h
  go_enter Try.func37, Try.ntmps37
  go_wp2_with (go_at_call 34; refine (fvalid_no _ _ H.out).mono ?_; rintro e w' ⟨rfl, rfl⟩)
  go_ret
  exact ⟨rfl, (Below.refl _ _).alloc (Nat.le_refl _) _⟩
set_option maxHeartbeats 1000000 in
theorem found_bad (b k m : Nat) (F : Fb) (x y z : Int) (hr : RgO x y z) (hf : ¬ IsFile x y z) (fv : Value) (w : World) (h : FW w b k m F) : Calls Try.prog 37 #[.pointer (some ⟨b, 0, none⟩), .agg #[.int .i64 x, .int .i64 y, .int .u32 z], fv] w fun e w' => e = .returned (.int .i64 2) ∧ Below w.heap.size w w' := by
  have hc := h.c0
  have hlt := h.hb.lt
  clear h
  rcases not_file hf hr with hb | ⟨hk, k', i', g', rfl, rfl, rfl, ho⟩
  · have HR := Lib.hid hr
    have HH := Lib.hid hb
    clear hr hf hb
    go_enter Try.func37, Try.ntmps37
    go_wp2_with (first
      | (go_at_call 34; refine (fvalid_yes _ k _ (cell_keeps ((Below.refl _ w).alloc (Nat.le_refl _) _) hc)).mono ?_; rintro e w' ⟨rfl, rfl⟩)
      | (go_at_call 53; refine (ochk_bad _ _ _ HR.out HH.out _).mono ?_; rintro e w2 ⟨rfl, hb2⟩; have HB := Lib.hid hb2; clear hb2))
    go_ret
    exact ⟨rfl, bel2 ((Below.refl _ _).alloc (Nat.le_refl _) _) HB.out⟩
  · have HH := Lib.hid ho
    clear hr hf ho
    go_enter Try.func37, Try.ntmps37
    go_wp2_with (first
      | (go_at_call 34; refine (fvalid_yes _ k _ (cell_keeps ((Below.refl _ w).alloc (Nat.le_refl _) _) hc)).mono ?_; rintro e w' ⟨rfl, rfl⟩)
      | (go_at_call 53; refine (ochk_ok _ _ _ HH.out _).mono ?_; rintro e w2 ⟨rfl, hb2⟩; have HB := Lib.hid hb2; have hc2 := (bcell hb2).1 w.heap.size 0 (by simp); clear hb2))
    go_ret
    exact ⟨rfl, bel2 ((Below.refl _ _).alloc (Nat.le_refl _) _) HB.out⟩

set_option maxHeartbeats 1000000 in
theorem found_stale (b k m : Nat) (F : Fb) (y z E : Int) (hr : RgO 1 y z) (hf : IsFile 1 y z) (hE : F.t.chk y z = E) (h0 : E ≠ 0) (fv : Value) (w : World) (h : FW w b k m F) : Calls Try.prog 37 #[.pointer (some ⟨b, 0, none⟩), .agg #[.int .i64 1, .int .i64 y, .int .u32 z], fv] w fun e w' => e = .returned (.int .i64 E) ∧ Below w.heap.size w w' := by
  obtain ⟨_, i', g', rfl, rfl, ho⟩ := hf.okn hr
  have hc := h.c0
  have CK : Hid (∀ W, Below w.heap.size w W → Calls Try.prog 54 #[.pointer (some ⟨k, 0, none⟩), .agg #[.int .i64 i', .int .u32 g']] W fun e w' => e = .returned (.int .i64 E) ∧ Below W.heap.size W w') := fun W hW => by
    have := check_any k F.t i' g' W (h.tab.below hW)
    rw [hE] at this; exact this
  have hlt := h.hb.lt
  have HC : Hid (∀ W, Below w.heap.size w W → W.cell? ⟨b, 0, none⟩ = some (.pointer (some ⟨k, 0, none⟩))) := fun W hW => (h.below hW).c0
  have HH := Lib.hid ho
  have hE0 : (E == 0) = false := beq_eq_false_iff_ne.2 h0
  clear hr hf ho h hE h0
  go_enter Try.func37, Try.ntmps37
  go_wp2_with (first
    | (go_at_call 34; refine (fvalid_yes _ k _ (cell_keeps ((Below.refl _ w).alloc (Nat.le_refl _) _) hc)).mono ?_; rintro e w' ⟨rfl, rfl⟩)
    | (go_at_call 53; refine (ochk_ok _ _ _ HH.out _).mono ?_; rintro e w2 ⟨rfl, hb2⟩; have HB := Lib.hid (bel2 ((Below.refl _ _).alloc (Nat.le_refl _) _) hb2); obtain ⟨q0, q1, q2, hl2⟩ := box_o hb2; have hc3 := HC.out w2 HB.out; clear hb2))
  have hbl : b < w2.heap.size := World.block_lt_of_cell? _ _ hc3
  have S0 : (w2.alloc (.cells #[.int .i64 i', .int .u32 g'] 86)).cell? ⟨b, 0, none⟩ = some (.pointer (some ⟨k, 0, none⟩)) ∧ (w2.alloc (.cells #[.int .i64 i', .int .u32 g'] 86)).cell? ⟨w2.heap.size, 0, none⟩ = some (.int .i64 i') ∧ (w2.alloc (.cells #[.int .i64 i', .int .u32 g'] 86)).cell? ⟨w2.heap.size, 1, none⟩ = some (.int .u32 g') := by
    have hn := Bk.new w2 86 #[.int .i64 i', .int .u32 g']
    exact ⟨cell_keeps ((Below.refl _ w2).alloc (Nat.le_refl _) _) hc3, hn.cell 0, hn.cell 1⟩
  have B0 := Lib.hid (bel_drew (bel_alloc HB.out (.cells #[.int .i64 i', .int .u32 g'] 86)))
  generalize (w2.alloc (.cells #[.int .i64 i', .int .u32 g'] 86)) = w4 at *
  obtain ⟨s0, s1, s2⟩ := S0
  go_region_held3 (fun W => W.cell? ⟨b, 0, none⟩ = some (.pointer (some ⟨k, 0, none⟩)) ∧ W.cell? ⟨w2.heap.size, 0, none⟩ = some (.int .i64 i') ∧ W.cell? ⟨w2.heap.size, 1, none⟩ = some (.int .u32 g')) (first | (exact ⟨s0, s1, s2⟩) | (with_reducible exact hz1)) (first
    | (go_at_call 54; (with_reducible refine (CK.out _ B0.out).mono ?_); rintro e w5 ⟨rfl, hb5⟩; have HB5 := Lib.hid (bel2 B0.out hb5); have hz1 := And.intro (cell_keeps hb5 s0) (And.intro (cell_keeps hb5 s1) (cell_keeps hb5 s2)); clear hb5))
  all_goals
    go_wp2
    go_ret
    exact ⟨rfl, HB5.out⟩

/-! ### the closure of Close -/
theorem kept_cell {S : Nat → Prop} {w w' : World} (h : Kept S w w') {g i : Nat} {v : Value} (hc : w.cell? ⟨g, i, none⟩ = some v) (hg : ¬ S g) : w'.cell? ⟨g, i, none⟩ = some v :=
  (World.cell?_of_block (a := ⟨g, i, none⟩) (h.block g (World.block_lt_of_cell? _ _ hc) hg)).trans hc
theorem FW.drewN {w : World} {b k m : Nat} {F : Fb} (h : FW w b k m F) (n : Nat) : FW (w.drewN n) b k m F := h.same fun _ _ => rfl
/-- A file that was given back, and is struck from the map. -/
theorem fclose_fin {w W : World} {b k m : Nat} {F : Fb} (h : FW w b k m F) {i : Nat} (hi : i < F.t.n) (hs : F.t.s i = 1) (hT : TabW W k (F.t.gave i)) (hk : Kept (· = k) w W) (ty : TypeId) :
    ∃ w', (Builtin.delete_ #[49, 25] ty #[.map (some m), okey 1 i (F.t.g i)]).run Try.prog W = .ok (.tuple #[]) w' ∧ FW w' b k m (F.close i) ∧ Kept (FFoot b k m) w w' := by
  have hr : RgO 1 i (F.t.g i) := by
    have := h.ok.t.gm i
    have := h.ok.hi
    exact ⟨by omega, by omega, by omega, by omega, by omega, by omega⟩
  have hl : F.look 1 i (F.t.g i) = some (F.num i) := by
    rw [Fb.look_open (h.ok.chk_held hi hs)]; rfl
  have m1 := h.map.same (hk.block m h.map.lt (fun e => h.km e.symm))
  obtain ⟨w', hrun, hm, hk2⟩ := m1.drop hr (by rw [hl]; rfl) ty
  refine ⟨w', hrun, ⟨h.ok.close i, (h.hb.kept hk h.bk).kept hk2 h.bm, hT.kept hk2 h.km, ?_⟩, ?_⟩
  · have e1 : (F.close i).t.held.length = F.t.held.length - 1 := held_close hi hs
    rw [e1]
    refine hm.congr fun x y z _ => ?_
    rw [Fb.look_close h.ok hi hs]; rfl
  · exact (hk.mono fun g _ e => .inr (.inl e)).trans (hk2.mono fun g _ e => .inr (.inr e))
set_option maxHeartbeats 1000000 in
theorem close1_ok (B C b k m i : Nat) (F : Fb) (w : World) (h : FW w b k m F) (hi : i < F.t.n) (hs : F.t.s i = 1) (hB : Bk w B 27 #[.pointer (some ⟨b, 0, none⟩)]) (hC : Bk w C 25 #[.int .i64 1, .int .i64 i, .int .u32 (F.t.g i)]) :
    Calls Try.prog 38 #[.agg #[.int .i64 i, .int .u32 (F.t.g i)], .pointer (some ⟨B, 0, none⟩), .pointer (some ⟨C, 0, none⟩)] w fun e w' => e = .returned (.tuple #[]) ∧ FW w' b k m (F.close i) ∧ Kept (FFoot b k m) w w' := by
  have hBk : B ≠ k := by rintro rfl; exact absurd (hB.uniq h.tab.bk).1 (by decide)
  have hCk : C ≠ k := by rintro rfl; exact absurd (hC.uniq h.tab.bk).1 (by decide)
  have hbk := h.bk
  have hkl := h.tab.bt
  obtain ⟨z, hz⟩ : ∃ z, F.t.g i = z := ⟨_, rfl⟩
  have GV : Hid (∀ W, Below w.heap.size w W → Calls Try.prog 39 #[.pointer (some ⟨k, 0, none⟩), .agg #[.int .i64 i, .int .u32 z]] W fun e w' => e = .returned (.int .i64 0) ∧ TabW w' k (F.t.gave i) ∧ Kept (· = k) W w') := fun W hW =>
    give_ok k F.t i z W (h.tab.below hW) hi hs (by rw [hz])
  have FIN : Hid (∀ W W', Below w.heap.size w W → TabW W' k (F.t.gave i) → Kept (· = k) W W' → ∃ w', (Builtin.delete_ #[49, 25] 0 #[.map (some m), .agg #[.int .i64 1, .int .i64 i, .int .u32 z]]).run Try.prog W'.drew = .ok (.tuple #[]) w' ∧ FW w' b k m (F.close i) ∧ Kept (FFoot b k m) w w') := fun W W' hW hT hk => by
    have := fclose_fin (h.below hW) hi hs (hT.drewN 1) hk.drew 0
    rw [hz] at this
    obtain ⟨w', h1, h2, h3⟩ := this
    exact ⟨w', h1, h2, (Kept.of_below hW).trans h3⟩
  have R0 : w.cell? ⟨B, 0, none⟩ = some (.pointer (some ⟨b, 0, none⟩)) := hB.cell 0
  have R1 := h.c0
  have R2 := h.c1
  have C0 : w.cell? ⟨C, 0, none⟩ = some (.int .i64 1) := hC.cell 0
  have C1 : w.cell? ⟨C, 1, none⟩ = some (.int .i64 i) := hC.cell 1
  have C2 : w.cell? ⟨C, 2, none⟩ = some (.int .u32 (F.t.g i)) := hC.cell 2
  rw [hz] at C2 ⊢
  clear h hi hs hB hC hz
  go_enter Try.func38, Try.ntmps38
  go_wp2
  have S0 : (w.alloc (.cells #[.int .i64 i, .int .u32 z] 86)).cell? ⟨w.heap.size, 0, none⟩ = some (.int .i64 i) ∧ (w.alloc (.cells #[.int .i64 i, .int .u32 z] 86)).cell? ⟨w.heap.size, 1, none⟩ = some (.int .u32 z) := by
    have hn := Bk.new w 86 #[.int .i64 i, .int .u32 z]
    exact ⟨hn.cell 0, hn.cell 1⟩
  have hb0 : Below w.heap.size w (w.alloc (.cells #[.int .i64 i, .int .u32 z] 86)) := (Below.refl _ w).alloc (Nat.le_refl _) _
  have B0 := Lib.hid (bel_drew hb0)
  have hne : w.heap.size ≠ k := by omega
  generalize (w.alloc (.cells #[.int .i64 i, .int .u32 z] 86)) = w4 at *
  obtain ⟨s0, s1⟩ := S0
  have r0 := cell_keeps hb0 R0
  have r1 := cell_keeps hb0 R1
  have r2 := cell_keeps hb0 R2
  have c0 := cell_keeps hb0 C0
  have c1 := cell_keeps hb0 C1
  have c2 := cell_keeps hb0 C2
  clear R0 R1 R2 C0 C1 C2 hb0
  go_region_held3 (fun W => W.cell? ⟨B, 0, none⟩ = some (.pointer (some ⟨b, 0, none⟩)) ∧ W.cell? ⟨b, 0, none⟩ = some (.pointer (some ⟨k, 0, none⟩)) ∧ W.cell? ⟨w.heap.size, 0, none⟩ = some (.int .i64 i) ∧ W.cell? ⟨w.heap.size, 1, none⟩ = some (.int .u32 z)) (first | (exact ⟨r0, r1, s0, s1⟩) | (with_reducible exact hz1)) (first
    | (go_at_call 39; (with_reducible refine (GV.out _ B0.out).mono ?_); rintro e w5 ⟨rfl, hT5, hk5⟩; have hz1 := And.intro (kept_cell hk5 r0 hBk) (And.intro (kept_cell hk5 r1 hbk) (And.intro (kept_cell hk5 s0 hne) (kept_cell hk5 s1 hne))); have q0 := kept_cell hk5 r2 hbk; have d0 := kept_cell hk5 c0 hCk; have d1 := kept_cell hk5 c1 hCk; have d2 := kept_cell hk5 c2 hCk; obtain ⟨w6, hrun, hF, hK⟩ := FIN.out _ _ B0.out hT5 hk5; have HF := Lib.hid (And.intro hF hK); clear hT5 hk5 hF hK))
  all_goals
    obtain ⟨t0, t1, t2, t3⟩ := hz1
    clear r0 r1 r2 c0 c1 c2 s0 s1
    go_wp2
    go_region
    go_end0
    exact ⟨rfl, HF.out⟩

/-! ### the closure of Number -/
set_option maxHeartbeats 1000000 in
theorem number1_ok (B C D b k m i : Nat) (F : Fb) (w : World) (h : FW w b k m F) (hi : i < F.t.n) (hs : F.t.s i = 1) (hB : Bk w B 27 #[.pointer (some ⟨b, 0, none⟩)]) (hC : Bk w C 25 #[.int .i64 1, .int .i64 i, .int .u32 (F.t.g i)]) (hD : Bk w D 3 #[.int .i64 0]) :
    Calls Try.prog 48 #[.agg #[.int .i64 i, .int .u32 (F.t.g i)], .pointer (some ⟨B, 0, none⟩), .pointer (some ⟨C, 0, none⟩), .pointer (some ⟨D, 0, none⟩)] w fun e w' => e = .returned (.tuple #[]) ∧ Bk w' D 3 #[.int .i64 (F.num i)] ∧ Kept (· = D) w w' := by
  obtain ⟨z, hz⟩ : ∃ z, F.t.g i = z := ⟨_, rfl⟩
  have hr : RgO 1 i z := by
    have := h.ok.t.gm i
    have := h.ok.hi
    exact ⟨by omega, by omega, by omega, by omega, by omega, by omega⟩
  have hl : (F.look 1 i z).getD 0 = F.num i := by
    rw [← hz, Fb.look_open (h.ok.chk_held hi hs)]; rfl
  have LK : ∀ o : Obj, (Instr.lookup 49 (.map (some m)) (.agg #[.int .i64 1, .int .i64 i, .int .u32 z]) false).run Try.prog (w.alloc o).drew = .ok (.int .i64 (F.num i)) (w.alloc o).drew := fun o => by
    have := ((h.map.same (Below.heap_alloc w o m h.map.lt)).same (w' := (w.alloc o).drew) rfl).look hr
    rw [hl] at this
    exact this
  have R0 : w.cell? ⟨B, 0, none⟩ = some (.pointer (some ⟨b, 0, none⟩)) := hB.cell 0
  have R2 := h.c1
  have C0 : w.cell? ⟨C, 0, none⟩ = some (.int .i64 1) := hC.cell 0
  have C1 : w.cell? ⟨C, 1, none⟩ = some (.int .i64 i) := hC.cell 1
  have C2 : w.cell? ⟨C, 2, none⟩ = some (.int .u32 (F.t.g i)) := hC.cell 2
  have D0 : w.cell? ⟨D, 0, none⟩ = some (.int .i64 0) := hD.cell 0
  have f0 := hD.frozen 0
  have FIN : Hid (∀ o : Obj, Bk ((w.alloc o).drew.setCell ⟨D, 0, none⟩ (.int .i64 (F.num i))) D 3 #[.int .i64 (F.num i)] ∧ Kept (· = D) w ((w.alloc o).drew.setCell ⟨D, 0, none⟩ (.int .i64 (F.num i)))) := fun o => by
    have h1 : Bk (w.alloc o).drew D 3 #[.int .i64 0] := hD.up o
    exact ⟨h1.put 0 _, (((Kept.refl _ w).alloc o).drew).put1 _ _⟩
  have hDl := hD.lt
  rw [hz] at C2 ⊢
  clear h hi hs hB hC hz hr hl hD
  go_enter Try.func48, Try.ntmps48
  go_wp2
  have hb0 : Below w.heap.size w (w.alloc (.cells #[.int .i64 i, .int .u32 z] 86)) := (Below.refl _ w).alloc (Nat.le_refl _) _
  have FI := Lib.hid (FIN.out (.cells #[.int .i64 i, .int .u32 z] 86))
  have lk := LK (.cells #[.int .i64 i, .int .u32 z] 86)
  have r0 := cell_keeps hb0 R0
  have r2 := cell_keeps hb0 R2
  have c0 := cell_keeps hb0 C0
  have c1 := cell_keeps hb0 C1
  have c2 := cell_keeps hb0 C2
  have d0 := cell_keeps hb0 D0
  have f1 : (w.alloc (.cells #[.int .i64 i, .int .u32 z] 86)).frozen? ⟨D, 0, none⟩ = false := by rw [(bcell hb0).2 D 0 hDl]; exact f0
  generalize (w.alloc (.cells #[.int .i64 i, .int .u32 z] 86)) = w4 at *
  clear R0 R2 C0 C1 C2 D0 f0 hb0 LK FIN
  go_region
  go_end0
  exact ⟨rfl, FI.out⟩
end Go.Proofs.Ythahmcipkchdjaa
