/- The contracts of the program's small functions on files: valid, file, New, Len. -/
import Derived.Test.YthahmcipkchdjaaFc
import Derived.BigQuiet
namespace Go.Proofs.Ythahmcipkchdjaa
open Go.RowKit

/-! ### valid -/
theorem fvalid_no (p : Option Addr) (w : World) (h : FInv w p) : Calls Try.prog 34 #[.pointer p] w fun e w' => e = .returned (.bool false) ∧ w = w' := by
  rcases h with rfl | ⟨b, rfl, h⟩
  · go_enter Try.func34, Try.ntmps34
    go_wp2
    go_ret
    exact ⟨rfl, rfl⟩
  · have hc : w.cell? ⟨b, 0, none⟩ = some (.pointer none) := h.cell 0
    clear h
    go_enter Try.func34, Try.ntmps34
    go_wp2
    go_ret
    exact ⟨rfl, rfl⟩
theorem fvalid_yes (b k : Nat) (w : World) (hc : w.cell? ⟨b, 0, none⟩ = some (.pointer (some ⟨k, 0, none⟩))) : Calls Try.prog 34 #[.pointer (some ⟨b, 0, none⟩)] w fun e w' => e = .returned (.bool true) ∧ w = w' := by
  go_enter Try.func34, Try.ntmps34
  go_wp2
  go_ret
  exact ⟨rfl, rfl⟩

/-! ### file -/
theorem file_ok (i g : Int) (w : World) (_g0 : 0 ≤ g) (_g1 : g ≤ 4294967295) (_i0 : 0 ≤ i) (_i1 : i ≤ 256) :
    Calls Try.prog 36 #[.agg #[.int .i64 i, .int .u32 g]] w fun e w' => e = .returned (.agg #[.int .i64 1, .int .i64 i, .int .u32 g]) ∧ Below w.heap.size w w' := by
  go_enter Try.func36, Try.ntmps36
  go_wp2
  refine bodyPost_ret (v := .agg #[.int .i64 1, .int .i64 i, .int .u32 g]) (by simp [results, Try.results36, go_sem]) rfl ⟨rfl, ?_⟩
  exact ((Below.refl _ _).alloc (Nat.le_refl _) _).alloc (by simp) _

/-! ### New -/
/-- A new table. -/
def FNew (F : Fb) (w : World) (b : Nat) (w' : World) : Prop := ∃ k m, FW w' b k m F ∧ (∀ g, FFoot b k m g → w.heap.size ≤ g) ∧ Below w.heap.size w w'
theorem fresh_held (n g : Nat) : (fresh n g).held = [] := by simp [Tb.held, fresh, sel]
theorem ffresh_look (n g : Nat) (k i y : Int) : (ffresh n g).look k i y = none := Fb.look_none fun h => by
  obtain ⟨_, j, _, _, h2, _⟩ := Fb.chk_open h
  simp [ffresh, fresh] at h2
theorem fnew_fin {w W : World} {n g : Nat} (h1 : 1 ≤ n) (h2 : n ≤ 64) (h3 : 1 ≤ g) (h4 : g ≤ 4294967295) (hB : Below w.heap.size w W) (hT : TabW W w.heap.size (fresh n g)) :
    FNew (ffresh n g) w (W.heap.size + 1) ((W.alloc (.map #[] 0)).alloc (.cells #[.pointer (some ⟨w.heap.size, 0, none⟩), .map (some W.heap.size)] 75)) := by
  have b2 := Bk.new (W.alloc (.map #[] 0)) 75 #[.pointer (some ⟨w.heap.size, 0, none⟩), .map (some W.heap.size)]
  rw [World.size_alloc] at b2
  have hs := hB.size
  have hb2 : Below W.heap.size W ((W.alloc (.map #[] 0)).alloc (.cells #[.pointer (some ⟨w.heap.size, 0, none⟩), .map (some W.heap.size)] 75)) := ((Below.refl _ _).alloc (Nat.le_refl _) _).alloc (by simp) _
  refine ⟨w.heap.size, W.heap.size, ⟨ffresh_ok h1 h2 h3 h4, b2, hT.below hb2, ?_⟩, ?_, hB.trans (hb2.mono hs)⟩
  · have m0 := MapW.new W
    have m1 := m0.same (Below.heap_alloc _ (.cells #[.pointer (some ⟨w.heap.size, 0, none⟩), .map (some W.heap.size)] 75) _ m0.lt)
    have e : (ffresh n g).t.held.length = 0 := by show (fresh n g).held.length = 0; rw [fresh_held]; rfl
    rw [e]
    exact m1.congr fun _ _ _ _ => (ffresh_look _ _ _ _ _).symm
  · rintro x (rfl | rfl | rfl)
    · omega
    · exact Nat.le_refl _
    · exact hs
theorem fnew_ok (n g : Nat) (w : World) (h1 : 1 ≤ n) (h2 : n ≤ 64) (h3 : 1 ≤ g) (h4 : g ≤ 4294967295) :
    Calls Try.prog 11 #[.int .i64 n, .int .u32 g] w fun e w' => ∃ b, e = .returned (.tuple #[.pointer (some ⟨b, 0, none⟩), .int .i64 0]) ∧ FNew (ffresh n g) w b w' := by
  have hmm := @run_makeMap Try.prog
  have NW := Lib.hid (new_ok n g w h1 (by omega) h3 h4)
  go_enter Try.func11, Try.ntmps11
  go_wp2_with (go_at_call 33; refine NW.out.mono ?_; rintro e w1 ⟨rfl, hT, hB⟩; have HF := Lib.hid (fnew_fin h1 h2 h3 h4 hB hT); clear hT hB)
  go_ret2
  exact ⟨_, rfl, HF.out⟩
/-- New where the arguments are not possible. -/
def FBad (n g : Int) : Prop := n < 1 ∨ 64 < n ∨ g = 0
theorem fnew_bad (n g : Int) (w : World) (hn : I64 n) (hg : 0 ≤ g ∧ g ≤ 4294967295) (h : FBad n g) :
    Calls Try.prog 11 #[.int .i64 n, .int .u32 g] w fun e w' => e = .returned (.tuple #[.pointer none, .int .i64 2]) ∧ w = w' := by
  obtain ⟨n0, n1⟩ := hn
  obtain ⟨g0, g1⟩ := hg
  by_cases c : 64 < n
  · go_enter Try.func11, Try.ntmps11
    go_wp2
    go_ret2
    exact ⟨rfl, rfl⟩
  · have NW : Hid (Calls Try.prog 33 #[.int .i64 n, .int .u32 g] w fun e w' => e = .returned (.tuple #[.pointer none, .int .i64 2]) ∧ w = w') := by
      by_cases c1 : n < 1
      · exact new_arg1 n g w (.inl c1)
      · obtain rfl : g = 0 := by unfold FBad at h; omega
        exact new_arg2 n w (by omega) (by omega)
    go_enter Try.func11, Try.ntmps11
    go_wp2_with (go_at_call 33; refine NW.out.mono ?_; rintro e w1 ⟨rfl, rfl⟩)
    go_ret2
    exact ⟨rfl, rfl⟩

/-! ### Len -/
theorem flen_no (p : Option Addr) (w : World) (h : FInv w p) : Calls Try.prog 30 #[.pointer p] w fun e w' => e = .returned (.int .i64 0) ∧ w = w' := by
  have H := Lib.hid h
  clear h
  go_enter Try.func30, Try.ntmps30
  go_wp2_with (go_at_call 34; refine (fvalid_no _ _ H.out).mono ?_; rintro e w' ⟨rfl, rfl⟩)
  go_ret
  exact ⟨rfl, rfl⟩
theorem flen_ok (b k m : Nat) (F : Fb) (w : World) (h : FW w b k m F) : Calls Try.prog 30 #[.pointer (some ⟨b, 0, none⟩)] w fun e w' => e = .returned (.int .i64 F.t.held.length) ∧ w = w' := by
  have hc := h.c0
  have h1 := h.c1
  have hl := h.map.len
  clear h
  go_enter Try.func30, Try.ntmps30
  go_wp2_with (go_at_call 34; refine (fvalid_yes _ _ _ hc).mono ?_; rintro e w' ⟨rfl, rfl⟩)
  go_ret
  exact ⟨rfl, rfl⟩
end Go.Proofs.Ythahmcipkchdjaa
