/- The contracts of maps.Clone, of the program's Copy, of slices.Clone and slices.Equal on resources. -/
import Derived.Test.YthahmcipkchdjaaFi
import Derived.Test.YthahmcipkchdjaaFs
namespace Go.Proofs.Ythahmcipkchdjaa
open Go.RowKit

theorem mclone_ok (m n : Nat) (T : Lk) (w : World) (h : MapW w m n T) : Calls Try.prog 42 #[.map (some m)] w fun e w' => ∃ m', e = .returned (.map (some m')) ∧ MapW w' m' n T ∧ w.heap.size ≤ m' ∧ Below w.heap.size w w' := by
  obtain ⟨D, h1, h2, h3⟩ := h
  refine (AnyW.maps_Clone_owns Try.laysMapClone _ _ m n D w h1).mono ?_
  rintro e w' ⟨rfl, k1, _, k2⟩
  exact ⟨_, rfl, ⟨D, k1, h2, h3⟩, Nat.le_refl _, k2⟩

/-! ### Copy -/
theorem fcopy_no (p : Option Addr) (w : World) (h : FInv w p) : Calls Try.prog 18 #[.pointer p] w fun e w' => e = .returned (.pointer none) ∧ w = w' := by
  have H := Lib.hid h
  clear h
  go_enter Try.func18, Try.ntmps18
  go_wp2_with (go_at_call 34; refine (fvalid_no _ _ H.out).mono ?_; rintro e w' ⟨rfl, rfl⟩)
  go_ret
  exact ⟨rfl, rfl⟩
theorem fcopy_fin {w W : World} {F : Fb} {k' m' : Nat} (hF : F.Ok) (hB : Below w.heap.size w W) (hT : TabW W k' F.t) (hm : MapW W m' F.t.held.length F.look) (hk : w.heap.size ≤ k') (hle : w.heap.size ≤ m') :
    FNew F w W.heap.size (W.alloc (.cells #[.pointer (some ⟨k', 0, none⟩), .map (some m')] 75)) := by
  refine ⟨k', m', ⟨hF, Bk.new W _ _, hT.same (Below.heap_alloc _ _ _ hT.bt), hm.same (Below.heap_alloc _ _ _ hm.lt)⟩, ?_, bel_alloc hB _⟩
  rintro g (rfl | rfl | rfl)
  · exact hB.size
  · exact hk
  · exact hle
set_option maxHeartbeats 4000000 in
theorem fcopy_ok (b k m : Nat) (F : Fb) (w : World) (h : FW w b k m F) : Calls Try.prog 18 #[.pointer (some ⟨b, 0, none⟩)] w fun e w' => ∃ b', e = .returned (.pointer (some ⟨b', 0, none⟩)) ∧ Hid (FNew F w b' w') := by
  have hc := h.c0
  have hc1 := h.c1
  have hF := h.ok
  have MC : Hid (∀ W, Below w.heap.size w W → Calls Try.prog 42 #[.map (some m)] W fun e w' => ∃ m', e = .returned (.map (some m')) ∧ MapW w' m' F.t.held.length F.look ∧ w.heap.size ≤ m' ∧ Below w.heap.size w w' ∧ Below W.heap.size W w') := fun W hB =>
    (mclone_ok m F.t.held.length F.look W (h.below hB).map).mono fun e w' ⟨m', h1, h2, h3, h4⟩ => ⟨m', h1, h2, Nat.le_trans hB.size h3, hB.trans (h4.mono hB.size), h4⟩
  have SC : Hid (∀ W, Below w.heap.size w W → Calls Try.prog 41 #[.pointer (some ⟨k, 0, none⟩)] W fun e w' => ∃ k', e = .returned (.pointer (some ⟨k', 0, none⟩)) ∧ TabW w' k' F.t ∧ w.heap.size ≤ k' ∧ Below w.heap.size w w' ∧ Below W.heap.size W w') := fun W hB =>
    (copy_ok k F.t W (h.below hB).tab).mono fun e w' ⟨h1, h2, h3⟩ => ⟨_, h1, h2, hB.size, hB.trans (h3.mono hB.size), h3⟩
  have FIN : Hid (∀ W k' m', Below w.heap.size w W → TabW W k' F.t → MapW W m' F.t.held.length F.look → w.heap.size ≤ k' → w.heap.size ≤ m' → FNew F w W.heap.size (W.alloc (.cells #[.pointer (some ⟨k', 0, none⟩), .map (some m')] 75))) := fun W k' m' h1 h2 h3 h4 h5 => fcopy_fin hF h1 h2 h3 h4 h5
  have HZ : Hid (∀ W, Below w.heap.size w W → W.cell? ⟨b, 0, none⟩ = some (.pointer (some ⟨k, 0, none⟩)) ∧ W.cell? ⟨b, 1, none⟩ = some (.map (some m))) := fun W hB => ⟨(h.below hB).c0, (h.below hB).c1⟩
  have b0 : Hid (Below w.heap.size w w.drew) := bel_drew (Below.refl _ _)
  clear h hF
  go_enter Try.func18, Try.ntmps18
  go_wp2_with (go_at_call 34; refine (fvalid_yes _ _ _ hc).mono ?_; rintro e w' ⟨rfl, rfl⟩)
  go_region_held3 (fun W => W.cell? ⟨b, 0, none⟩ = some (.pointer (some ⟨k, 0, none⟩)) ∧ W.cell? ⟨b, 1, none⟩ = some (.map (some m))) (first | (exact ⟨hc, hc1⟩) | (with_reducible exact hz1) | (with_reducible exact hz2) | (with_reducible exact hz3 _)) (first
    | (go_at_call 42; (with_reducible refine (MC.out _ b0.out).mono ?_); rintro e w2 ⟨m', rfl, hm, hle, hB, hb⟩; have HM := Lib.hid (And.intro hm (And.intro hle hB)); have hz1 := HZ.out w2 hB; clear hm hle hB hb)
    | (go_at_call 41; (with_reducible refine (SC.out _ b0.out).mono ?_); rintro e w2 ⟨k', rfl, hs, hle, hB, hb⟩; have HS := Lib.hid (And.intro hs (And.intro hle hB)); have hz1 := HZ.out w2 hB; clear hs hle hB hb)
    | (go_at_call 41; (with_reducible refine (SC.out _ HM.out.2.2).mono ?_); rintro e w3 ⟨k', rfl, hs, hle, hB, hb⟩; have HF := Lib.hid (FIN.out w3 k' m' hB hs (HM.out.1.same (hb.block m' HM.out.1.lt)) hle HM.out.2.1); have hz2 := HZ.out w3 hB; have hz3 := fun x => HZ.out (w3.alloc x) (hB.alloc hB.size _); clear hs hle hB hb HM hz1)
    | (go_at_call 42; (with_reducible refine (MC.out _ HS.out.2.2).mono ?_); rintro e w3 ⟨m', rfl, hm, hle, hB, hb⟩; have HF := Lib.hid (FIN.out w3 k' m' hB (HS.out.1.same (hb.block k' HS.out.1.bt)) hm HS.out.2.1 hle); have hz2 := HZ.out w3 hB; have hz3 := fun x => HZ.out (w3.alloc x) (hB.alloc hB.size _); clear hm hle hB hb HS hz1))
  all_goals
    clear hz3
    go_wp2
    go_ret
    exact ⟨_, rfl, HF⟩

/-! ### slices.Equal -/
theorem RdO.cap {w : World} {a : Option Addr} {n c : Nat} {l : List Ro} (h : RdO w (.slice a n c) l) : n = l.length ∧ l.length ≤ c ∧ c ≤ 9223372036854775807 ∧ (a = none → c = 0) := by
  obtain ⟨a', c', e, h1, h2, h3, _⟩ := h
  injection e with e1 e2 e3
  subst e1 e2 e3
  exact ⟨rfl, h1, h2, h3⟩
set_option maxRecDepth 100000 in
set_option maxHeartbeats 1000000 in
theorem equal_yes (a a' : Option Addr) (n n' c c' : Nat) (l : List Ro) (w : World) (h : RdO w (.slice a n c) l) (h' : RdO w (.slice a' n' c') l) :
    Calls Try.prog 28 #[.slice a n c, .slice a' n' c'] w fun e w' => e = .returned (.bool true) ∧ Below w.heap.size w w' := by
  obtain ⟨rfl, h1, h2, _⟩ := h.cap
  obtain ⟨rfl, _⟩ := h'.cap
  have H := Lib.hid h
  have H' := Lib.hid h'
  clear h h'
  go_enter Try.func28, Try.ntmps28
  go_wp2
  go_loopw [13] (fun i wr => ∃ k : Nat, k ≤ l.length ∧ i = .int .i64 k ∧ Hid (Below w.heap.size w wr)) (fun i _ => l.length - (intOf i).toNat)
  case atStart => exact ⟨0, Nat.zero_le _, rfl, Below.refl _ _⟩
  case round =>
    obtain ⟨k, hk, rfl, HB⟩ := hrel
    by_cases hlt : k < l.length
    · obtain ⟨g, off, rfl, hg, hc⟩ := (H.out.below HB.out).cell hlt
      obtain ⟨g', off', rfl, hg', hc'⟩ := (H'.out.below HB.out).cell hlt
      generalize l[k] = x at *
      obtain ⟨k', i, y⟩ := x
      obtain ⟨c0, c1, c2⟩ := hc
      obtain ⟨d0, d1, d2⟩ := hc'
      simp only at c0 c1 c2 d0 d1 d2
      go_wp2
      go_quiet (fail)
      go_wp2
      exact ⟨⟨k + 1, by omega, by go_num, bel_drewN HB.out _⟩, by simp [intOf]; omega⟩
    · obtain rfl : k = l.length := by omega
      clear hlt
      go_wp2
      go_ret
      exact ⟨rfl, HB.out⟩
end Go.Proofs.Ythahmcipkchdjaa
