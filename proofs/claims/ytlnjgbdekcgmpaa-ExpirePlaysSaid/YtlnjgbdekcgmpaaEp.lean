/- The contract of the program's Copy. -/
import Derived.Test.YtlnjgbdekcgmpaaEl
namespace Go.Proofs.Ytlnjgbdekcgmpaa
open Go.RowKit

theorem copy_no (p : Option Addr) (w : World) (h : Inv w p) : Calls Try.prog 21 #[.pointer p] w fun e w' => e = .returned (.pointer none) ∧ w = w' := by
  go_enter Try.func21, Try.ntmps21
  go_wp2_with (go_at_call 30; refine (valid_no _ _ h).mono ?_; rintro e w' ⟨rfl, rfl⟩)
  go_ret
  exact ⟨rfl, rfl⟩

/-- maps.Clone. -/
theorem mclone_ok (m n : Nat) (T : Int → Option Int) (w : World) (h : MapW w m n T) : Calls Try.prog 37 #[.map (some m)] w fun e w' => ∃ m', e = .returned (.map (some m')) ∧ MapW w' m' n T ∧ w.heap.size ≤ m' ∧ Below w.heap.size w w' := by
  obtain ⟨D, h1, h2, h3⟩ := h
  refine (AnyW.maps_Clone_owns Try.laysMapClone _ _ m n D w h1).mono ?_
  rintro e w' ⟨rfl, k1, _, k2⟩
  exact ⟨_, rfl, ⟨D, k1, h2, h3⟩, Nat.le_refl _, k2⟩
/-- slices.Clone. -/
theorem sclone_ok (v : Value) (xs : List Int) (w : World) (hl : xs.length ≤ 1000) (h : w.ownsRow 0 3 1 v xs.length (ints xs)) : Calls Try.prog 38 #[v] w fun e w' => ∃ a n' c, e = .returned (.slice a n' c) ∧ w'.ownsRow w.heap.size 3 1 (.slice a n' c) xs.length (ints xs) ∧ Below w.heap.size w w' := by
  obtain ⟨i0, hi, hz0, hz1, hz2⟩ := info_parts info_int
  rcases h.2 with ⟨rfl, h0⟩ | ⟨g, cap, cur, rfl, _⟩
  · have hx : xs = [] := List.eq_nil_of_length_eq_zero h0
    subst hx
    refine (AnyE.slices_Clone_nil Try.laysClone 0 0 w).mono ?_
    rintro e w' ⟨rfl, rfl⟩
    exact ⟨none, 0, 0, rfl, World.ownsRow_nil _ _ _ _, Below.refl _ _⟩
  · obtain ⟨_, _, _, _, _, _, hcell⟩ := own_cell h
    refine (AnyE.slices_Clone Try.laysClone i0 (.int .i64 0) 1 8 hi hz0 hz1 hz2 rfl (by decide) (fun _ => by kernel_rfl) g 0 xs.length cap (ints xs) w (by rw [ints_length, Nat.mul_one]) (by unfold maxLen; omega) (by omega) (fun j u hj => by
      obtain ⟨y, hy, rfl⟩ := ints_get hj
      rw [Nat.zero_add]; exact hcell j y hy) (ints_one xs)).mono ?_
    rintro e w' ⟨v', rfl, hr, _, hb⟩
    obtain ⟨a, n', c, rfl⟩ := own_slice hr
    exact ⟨a, n', c, rfl, hr, hb⟩

/-- The copy, laid. -/
theorem copy_fin {w W : World} {m' n : Nat} {T : Int → Option Int} {s : Value} {xs : List Int} (hB : Below w.heap.size w W) (hm : MapW W m' n T) (_hle : w.heap.size ≤ m') (hs : W.ownsRow w.heap.size 3 1 s xs.length (ints xs)) (hrg : ∀ x ∈ xs, I64 x) :
    LineW ((W.alloc (.cells #[.map (some m'), s] 57)).alloc (.cells #[.pointer (some ⟨W.heap.size, 0, none⟩)] 44)) W.heap.size m' s n T xs ∧
    Bk ((W.alloc (.cells #[.map (some m'), s] 57)).alloc (.cells #[.pointer (some ⟨W.heap.size, 0, none⟩)] 44)) (W.heap.size + 1) 44 #[.pointer (some ⟨W.heap.size, 0, none⟩)] ∧
    Below w.heap.size w ((W.alloc (.cells #[.map (some m'), s] 57)).alloc (.cells #[.pointer (some ⟨W.heap.size, 0, none⟩)] 44)) := by
  have b2 := Bk.new (W.alloc (.cells #[.map (some m'), s] 57)) 44 #[.pointer (some ⟨W.heap.size, 0, none⟩)]
  rw [World.size_alloc] at b2
  have hb2 : Below W.heap.size W ((W.alloc (.cells #[.map (some m'), s] 57)).alloc (.cells #[.pointer (some ⟨W.heap.size, 0, none⟩)] 44)) := ((Below.refl _ _).alloc (Nat.le_refl _) _).alloc (by simp) _
  refine ⟨⟨(Bk.new W _ _).up _, own_lower (own_below hs hb2) (Nat.zero_le _), hm.same (hb2.block m' hm.lt), hrg⟩, b2, hB.trans (hb2.mono hB.size)⟩

def CopyP (w : World) (L : List En) (e : Ending) (w' : World) : Prop := ∃ b F, e = .returned (.pointer (some ⟨b, 0, none⟩)) ∧ Q w' b F L ∧ (∀ g, F g → w.heap.size ≤ g) ∧ Below w.heap.size w w'
set_option maxHeartbeats 4000000 in
theorem copy_ok (b k m : Nat) (v : Value) (L : List En) (w : World) (h : QW w b k m v L) : Calls Try.prog 21 #[.pointer (some ⟨b, 0, none⟩)] w (CopyP w L) := by
  have hc := h.c
  have hk0 := h.line.c0
  have hk1 := h.line.c1
  have hlb := World.block_lt_of_cell? _ _ hc
  have hlk := World.block_lt_of_cell? _ _ hk0
  have MC : Hid (∀ W, Below w.heap.size w W → Calls Try.prog 37 #[.map (some m)] W fun e w' => ∃ m', e = .returned (.map (some m')) ∧ MapW w' m' L.length (tm L) ∧ w.heap.size ≤ m' ∧ Below w.heap.size w w' ∧ Below W.heap.size W w') := fun W hB =>
    (mclone_ok m L.length (tm L) W (h.line.below hB).map).mono fun e w' ⟨m', h1, h2, h3, h4⟩ => ⟨m', h1, h2, Nat.le_trans hB.size h3, hB.trans (h4.mono hB.size), h4⟩
  have SC : Hid (∀ W, Below w.heap.size w W → Calls Try.prog 38 #[v] W fun e w' => ∃ a n' c, e = .returned (.slice a n' c) ∧ w'.ownsRow w.heap.size 3 1 (.slice a n' c) (ids L).length (ints (ids L)) ∧ Below w.heap.size w w' ∧ Below W.heap.size W w') := fun W hB =>
    (sclone_ok v (ids L) W (by rw [ids_length]; have := h.len; omega) (h.line.below hB).row).mono fun e w' ⟨a, n', c, h1, h2, h3⟩ => ⟨a, n', c, h1, own_lower h2 hB.size, hB.trans (h3.mono hB.size), h3⟩
  have FIN : Hid (∀ W m' a n' c, Below w.heap.size w W → MapW W m' L.length (tm L) → w.heap.size ≤ m' → W.ownsRow w.heap.size 3 1 (.slice a n' c) (ids L).length (ints (ids L)) → CopyP w L (.returned (.pointer (some ⟨W.heap.size + 1, 0, none⟩))) ((W.alloc (.cells #[.map (some m'), .slice a n' c] 57)).alloc (.cells #[.pointer (some ⟨W.heap.size, 0, none⟩)] 44))) := fun W m' a n' c hB hm hle hs => by
    obtain ⟨h1, h2, h3⟩ := copy_fin hB hm hle hs h.line.rg
    refine ⟨_, QFoot (W.heap.size + 1) W.heap.size m' (.slice a n' c), rfl, ⟨_, _, _, ⟨h.srt, h.nod, h.rg, h.len, h2, h1⟩, fun _ => Iff.rfl⟩, fun g hg => ?_, h3⟩
    have := hB.size
    rcases hg with rfl | rfl | rfl | e
    · omega
    · omega
    · exact hle
    · exact (hs.lt g e).1
  have HZ : Hid (∀ W, Below w.heap.size w W → W.cell? ⟨b, 0, none⟩ = some (.pointer (some ⟨k, 0, none⟩)) ∧ W.cell? ⟨k, 0, none⟩ = some (.map (some m)) ∧ W.cell? ⟨k, 1, none⟩ = some v) := fun W hB => ⟨(h.below hB).c, (h.below hB).line.c0, (h.below hB).line.c1⟩
  have b0 : Hid (Below w.heap.size w w.drew) := bel_drew (Below.refl _ _)
  clear h
  go_enter Try.func21, Try.ntmps21
  go_wp2_with (go_at_call 30; refine (valid_yes _ _ _ hc).mono ?_; rintro e w' ⟨rfl, rfl⟩)
  go_region_held3 (fun W => W.cell? ⟨b, 0, none⟩ = some (.pointer (some ⟨k, 0, none⟩)) ∧ W.cell? ⟨k, 0, none⟩ = some (.map (some m)) ∧ W.cell? ⟨k, 1, none⟩ = some v) (first | (exact ⟨hc, hk0, hk1⟩) | (with_reducible exact hz1) | (with_reducible exact hz2) | (with_reducible exact hz3 _) | (with_reducible exact hz4 _ _)) (first
    | (go_at_call 37; (with_reducible refine (MC.out _ b0.out).mono ?_); rintro e w2 ⟨m', rfl, hm, hle, hB, hb⟩; have HM := Lib.hid (And.intro hm (And.intro hle hB)); have hz1 := HZ.out w2 hB; clear hm hle hB hb)
    | (go_at_call 38; (with_reducible refine (SC.out _ b0.out).mono ?_); rintro e w2 ⟨a, n', c, rfl, hs, hB, hb⟩; have HS := Lib.hid (And.intro hs hB); have hz1 := HZ.out w2 hB; clear hs hB hb)
    | (go_at_call 38; (with_reducible refine (SC.out _ HM.out.2.2).mono ?_); rintro e w3 ⟨a, n', c, rfl, hs, hB, hb⟩; have HF := Lib.hid (FIN.out w3 m' a n' c hB (HM.out.1.same (hb.block m' HM.out.1.lt)) HM.out.2.1 hs); have hz2 := HZ.out w3 hB; have hz3 := fun x => HZ.out (w3.alloc x) (hB.alloc hB.size _); have hz4 := fun x y => HZ.out ((w3.alloc x).alloc y) ((hB.alloc hB.size _).alloc (by rw [World.size_alloc]; have := hB.size; omega) _); clear hs hB hb HM hz1)
    | (go_at_call 37; (with_reducible refine (MC.out _ HS.out.2).mono ?_); rintro e w3 ⟨m', rfl, hm, hle, hB, hb⟩; have HF := Lib.hid (FIN.out w3 m' a n' c hB hm hle (own_same HS.out.1 fun g hg => hb.block g (HS.out.1.lt g hg).2)); have hz2 := HZ.out w3 hB; have hz3 := fun x => HZ.out (w3.alloc x) (hB.alloc hB.size _); have hz4 := fun x y => HZ.out ((w3.alloc x).alloc y) ((hB.alloc hB.size _).alloc (by rw [World.size_alloc]; have := hB.size; omega) _); clear hm hle hB hb HS hz1))
  all_goals
    clear hz3 hz4
    go_wp2
    go_ret
    exact HF.out
end Go.Proofs.Ytlnjgbdekcgmpaa
