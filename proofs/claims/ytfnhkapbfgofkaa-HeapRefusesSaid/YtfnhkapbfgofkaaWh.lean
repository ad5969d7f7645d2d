/- The contracts of the program's New and Copy. -/
import Derived.Test.YtfnhkapbfgofkaaWd
import Derived.Deep.WholeRow
namespace Go.Proofs.Ytfnhkapbfgofkaa
open Go.RowKit

theorem zero_places (w : World) : (zeroValue 82).run Try.prog w = .ok (.agg (pcells (.pointer none) (fun _ => ob0))) w := by kernel_rfl
/-- A new heap. -/
def HNew (H : Hp) (w w' : World) (b : Nat) : Prop := ∃ p t, HW w' b p t H ∧ (∀ g, HFoot b p t g → w.heap.size ≤ g) ∧ Below w.heap.size w w'
theorem hnew_bad (n g : Int) (w : World) (hg : 0 ≤ g) (h : n < 1 ∨ 256 < n ∨ g < 1) : Calls Try.prog 12 #[.int .i64 n, .int .u32 g] w fun e w' => e = .returned (.tuple #[.pointer none, .int .i64 2]) ∧ w = w' := by
  have NW : Hid (Calls Try.prog 34 #[.int .i64 n, .int .u32 g] w fun e w' => e = .returned (.tuple #[.pointer none, .int .i64 2]) ∧ w = w') := by
    by_cases h1 : n < 1 ∨ 256 < n
    · exact new_arg1 n g w h1
    · obtain rfl : g = 0 := by omega
      exact new_arg2 n w (by omega) (by omega)
  clear h hg
  go_enter Try.func12, Try.ntmps12
  go_wp2_with (go_at_call 34; refine NW.out.mono ?_; rintro e w' ⟨rfl, rfl⟩)
  go_ret2
  exact ⟨rfl, rfl⟩
theorem hw_new {w1 : World} {t : Nat} {T : Tb} {O : Nat → Ob} (H : Hp) (ht : TabW w1 t T) (hok : H.Ok) (hT : H.t = T) (hO : ∀ i, i < H.t.n → H.t.s i = 1 → O i = H.o i) (cs : Array Value) (hcs : cs = pcells (.pointer (some ⟨t, 0, none⟩)) O) :
    HW ((w1.alloc (.cells cs 82)).alloc (.cells #[.pointer (some ⟨w1.heap.size, 0, none⟩)] 49)) (w1.heap.size + 1) w1.heap.size t H := by
  obtain ⟨k1, k2, k3, k4⟩ := two_boxes w1 cs #[.pointer (some ⟨w1.heap.size, 0, none⟩)] 82 49 rfl
  refine ⟨hok, k2, ?_, O, ?_, hO⟩
  · rw [hT]; exact ht.below k4
  · rw [← hcs]; exact k1
set_option maxRecDepth 100000 in
set_option maxHeartbeats 2000000 in
theorem hnew_ok (n first : Nat) (w : World) (h1 : 1 ≤ n) (h2 : n ≤ 256) (h3 : 1 ≤ first) (h4 : first ≤ 4294967295) : Calls Try.prog 12 #[.int .i64 n, .int .u32 first] w fun e w' => ∃ b, e = .returned (.tuple #[.pointer (some ⟨b, 0, none⟩), .int .i64 0]) ∧ Hid (HNew (hfresh n first) w w' b) := by
  have NW := Lib.hid (new_ok n first w h1 h2 h3 h4)
  have hz := zero_places
  obtain ⟨zs, hzs⟩ : ∃ zs, pcells (.pointer none) (fun _ => ob0) = zs := ⟨_, rfl⟩
  have hsz : zs.size = 2561 := by rw [← hzs]; exact pcells_size _ _
  have hne : ¬ zs = #[] := by rw [← hzs]; exact pcells_ne _ _
  simp only [hzs] at hz
  have HZ : Hid (∀ t : Nat, zs.setIfInBounds 0 (.pointer (some ⟨t, 0, none⟩)) = pcells (.pointer (some ⟨t, 0, none⟩)) (fun _ => ob0)) := fun t => by rw [← hzs]; exact pcells_first _ _ _
  have OK := Lib.hid (hfresh_ok h1 h2 h3 h4)
  clear hzs h1 h2 h3 h4
  go_enter Try.func12, Try.ntmps12
  go_wp2_with (go_at_call 34; refine NW.out.mono ?_; rintro e w1 ⟨rfl, hT, hb⟩; have HT := Lib.hid (And.intro hT hb); clear hT hb)
  have HF : Hid (HNew (hfresh n first) w ((w1.alloc (.cells (zs.setIfInBounds 0 (.pointer (some ⟨w.heap.size, 0, none⟩))) 82)).alloc (.cells #[.pointer (some ⟨w1.heap.size, 0, none⟩)] 49)) (w1.heap.size + 1)) := by
    refine ⟨w1.heap.size, w.heap.size, hw_new (hfresh n first) HT.out.1 OK.out rfl (fun _ _ _ => rfl) _ (HZ.out _), ?_, bel2 HT.out.2 ((bel_new _ _).alloc (by simp) _)⟩
    have := HT.out.2.size
    rintro g (rfl | rfl | rfl) <;> omega
  go_ret2
  exact ⟨_, rfl, HF⟩
set_option maxRecDepth 100000 in
set_option maxHeartbeats 2000000 in
theorem hcopy_ok (b p t : Nat) (H : Hp) (w : World) (h : HW w b p t H) : Calls Try.prog 22 #[.pointer (some ⟨b, 0, none⟩)] w fun e w' => ∃ b', e = .returned (.pointer (some ⟨b', 0, none⟩)) ∧ Hid (HNew H w w' b') := by
  obtain ⟨O, hO1, hO2⟩ := h.at_
  have hz := zero_places
  obtain ⟨zs, hzs⟩ : ∃ zs, pcells (.pointer none) (fun _ => ob0) = zs := ⟨_, rfl⟩
  have hsz : zs.size = 2561 := by rw [← hzs]; exact pcells_size _ _
  have hne : ¬ zs = #[] := by rw [← hzs]; exact pcells_ne _ _
  simp only [hzs] at hz
  have HB := Lib.hid hO1
  have H0 := Lib.hid h
  have HV := Lib.hid (hvalid_yes b p w h.c0)
  have hb0 := h.c0
  have hst := run_storeCells_new (P := Try.prog) w 82 zs (pcells (.pointer (some ⟨t, 0, none⟩)) O) (by rw [pcells_size]; kernel_rfl) (by rw [pcells_size, hsz]) (pcells_one rfl O)
  have B1 : Hid (Bk (w.alloc (.cells (pcells (.pointer (some ⟨t, 0, none⟩)) O) 82)) w.heap.size 82 (pcells (.pointer (some ⟨t, 0, none⟩)) O)) := Bk.new w _ _
  have CP := Lib.hid (copy_ok t H.t (w.alloc (.cells (pcells (.pointer (some ⟨t, 0, none⟩)) O) 82)) (h.tab.below (bel_new _ _)))
  have FC : Hid (∀ t', (pcells (.pointer (some ⟨t, 0, none⟩)) O).setIfInBounds 0 (.pointer (some ⟨t', 0, none⟩)) = pcells (.pointer (some ⟨t', 0, none⟩)) O) := fun t' => pcells_first _ _ _
  have C0 : Hid ((pcells (.pointer (some ⟨t, 0, none⟩)) O)[0]? = some (.pointer (some ⟨t, 0, none⟩))) := pcells_zero _ _
  have SZ : Hid ((pcells (.pointer (some ⟨t, 0, none⟩)) O).size = 2561) := pcells_size _ _
  have OO := Lib.hid hO2
  generalize pcells (.pointer (some ⟨t, 0, none⟩)) O = cs at *
  clear hzs h hO1 hO2
  go_enter Try.func22, Try.ntmps22
  go_wp2_with (first
    | (go_at_call 35; refine HV.out.mono ?_; rintro e w' ⟨rfl, rfl⟩)
    | (refine wpList_load_row rfl 82 _ rfl p rfl _ cs _ _ HB.out Try.underlying82 rfl (by rw [SZ.out]; kernel_rfl) ?_; have c1 := (B1.out.cell 0).trans C0.out)
    | (go_at_call 52; refine CP.out.mono ?_; rintro e w2 ⟨rfl, hT, hb⟩; have HT := Lib.hid (And.intro hT hb); have hb2 := B1.out.below hb; have c2 := (hb2.cell 0).trans C0.out; have f2 := hb2.frozen 0; clear hT hb))
  have HF : Hid (HNew H w ((w2.setCell ⟨w.heap.size, 0, none⟩ (.pointer (some ⟨w.heap.size + 1, 0, none⟩))).alloc (.cells #[.pointer (some ⟨w.heap.size, 0, none⟩)] 49)) w2.heap.size) := by
    obtain ⟨hT, hb⟩ := HT.out
    rw [World.size_alloc] at hT hb
    have hs2 := hb.size
    rw [World.size_alloc] at hs2
    have q1 := hb2.put 0 (.pointer (some ⟨w.heap.size + 1, 0, none⟩))
    rw [FC.out] at q1
    have k1 : Kept (· = w.heap.size) w2 (w2.setCell ⟨w.heap.size, 0, none⟩ (.pointer (some ⟨w.heap.size + 1, 0, none⟩))) := (Kept.refl _ w2).put1 0 _
    have q2 := hT.kept k1 (by omega)
    have hbw : Below w.heap.size w w2 := bel2 (bel_new w (.cells cs 82)) (by rw [World.size_alloc]; exact hb)
    have hb3 : Below w.heap.size w (w2.setCell ⟨w.heap.size, 0, none⟩ (.pointer (some ⟨w.heap.size + 1, 0, none⟩))) := hbw.setCell (p := ⟨w.heap.size, 0, none⟩) (Nat.le_refl _) _
    have hsz3 : (w2.setCell ⟨w.heap.size, 0, none⟩ (.pointer (some ⟨w.heap.size + 1, 0, none⟩))).heap.size = w2.heap.size := by simp
    generalize w2.setCell ⟨w.heap.size, 0, none⟩ (.pointer (some ⟨w.heap.size + 1, 0, none⟩)) = w3 at *
    have hn := Bk.new w3 49 #[.pointer (some ⟨w.heap.size, 0, none⟩)]
    rw [hsz3] at hn
    refine ⟨w.heap.size, w.heap.size + 1, ⟨H0.out.ok, hn, q2.below (bel_new _ _), O, q1.below (bel_new _ _), OO.out⟩, ?_, bel2 hb3 (bel_new _ _)⟩
    rintro g (rfl | rfl | rfl) <;> omega
  go_ret
  exact ⟨_, rfl, HF⟩
end Go.Proofs.Ytfnhkapbfgofkaa
