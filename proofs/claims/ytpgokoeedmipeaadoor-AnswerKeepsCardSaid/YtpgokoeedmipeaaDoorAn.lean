/- Sources that are not valid; the state of one source; the examples. -/
import Derived.Test.YtpgokoeedmipeaaDoorAj
import Derived.Test.YtpgokoeedmipeaaDoorAf
namespace Go.Proofs.YtpgokoeedmipeaaDoor
open Go.RowKit

/-! ### sources that are not valid -/
theorem add_inv (v : Option Addr) (s : ByteArray) (w : World) (h : Inv w v) : Calls Tryd.prog 6 #[.pointer v, .string s] w fun e w' => e = .returned (.int .i64 1) ∧ w = w' := by
  have H := Lib.hid h
  clear h
  go_enter Tryd.func6, Tryd.ntmps6
  go_wp2_with (go_at_call 15; refine (valid_no _ _ H.out).mono ?_; rintro e w' ⟨rfl, rfl⟩)
  go_ret
  exact ⟨rfl, rfl⟩
theorem next_inv (v : Option Addr) (w : World) (h : Inv w v) : Calls Tryd.prog 11 #[.pointer v] w fun e w' => e = .returned (.int .i64 0) ∧ w = w' := by
  have H := Lib.hid h
  clear h
  go_enter Tryd.func11, Tryd.ntmps11
  go_wp2_with (go_at_call 15; refine (valid_no _ _ H.out).mono ?_; rintro e w' ⟨rfl, rfl⟩)
  go_ret
  exact ⟨rfl, rfl⟩
theorem left_inv (v : Option Addr) (w : World) (h : Inv w v) : Calls Tryd.prog 10 #[.pointer v] w fun e w' => e = .returned (.int .i64 0) ∧ w = w' := by
  have H := Lib.hid h
  clear h
  go_enter Tryd.func10, Tryd.ntmps10
  go_wp2_with (go_at_call 15; refine (valid_no _ _ H.out).mono ?_; rintro e w' ⟨rfl, rfl⟩)
  go_ret
  exact ⟨rfl, rfl⟩
theorem peek_inv (v : Option Addr) (n : Int) (w : World) (h : Inv w v) : Calls Tryd.prog 9 #[.pointer v, .int .i64 n] w fun e w' => e = .returned (.slice none 0 0) ∧ w = w' := by
  have H := Lib.hid h
  clear h
  go_enter Tryd.func9, Tryd.ntmps9
  go_wp2_with (go_at_call 15; refine (valid_no _ _ H.out).mono ?_; rintro e w' ⟨rfl, rfl⟩)
  go_ret
  exact ⟨rfl, rfl⟩
theorem copy_inv (v : Option Addr) (w : World) (h : Inv w v) : Calls Tryd.prog 8 #[.pointer v] w fun e w' => e = .returned (.pointer none) ∧ w = w' := by
  have H := Lib.hid h
  clear h
  go_enter Tryd.func8, Tryd.ntmps8
  go_wp2_with (go_at_call 15; refine (valid_no _ _ H.out).mono ?_; rintro e w' ⟨rfl, rfl⟩)
  go_ret
  exact ⟨rfl, rfl⟩

/-! ### the state of one source -/
/-- Since w0, blocks were made alone, but for the source in block b, whose answers are L. -/
structure St (w0 w : World) (b : Nat) (L : List Int) : Prop where
  env : Env w0
  s : SrcW 39 w b L
  bel : Below w0.heap.size w0 w
  lo : w0.heap.size ≤ b
section
variable {w0 w w' : World} {b : Nat} {L : List Int}
theorem St.e (h : St w0 w b L) : Env w := h.env.below h.bel
theorem St.below (h : St w0 w b L) (k : Below w.heap.size w w') : St w0 w' b L := ⟨h.env, h.s.below k, bel2 h.bel k, h.lo⟩
theorem St.new (he : Env w) : Calls Tryd.prog 5 #[] w fun e w' => ∃ b, e = .returned (.pointer (some ⟨b, 0, none⟩)) ∧ St w w' b [] :=
  (new_ok w).mono fun _ _ ⟨h1, h2, h3⟩ => ⟨_, h1, he, h2, h3, Nat.le_refl _⟩
theorem St.add (h : St w0 w b L) (s : ByteArray) {bs : List UInt8} (hb : s.data.toList = bs) (hs : s.size ≤ 140737488351232) {E : Nat} {L' : List Int} (hE : aE L bs = E) (hL : aL L bs = L') :
    Calls Tryd.prog 6 #[.pointer (some ⟨b, 0, none⟩), .string s] w fun e w' => e = .returned (.int .i64 E) ∧ St w0 w' b L' ∧ Hid (∀ v l, Sl w v l → Sl w' v l) :=
  (add_ok s b L w h.e h.s hs).mono fun _ _ ⟨h1, h2, h3⟩ => by
    rw [hb] at h1 h2
    rw [hE] at h1
    rw [hL] at h2
    exact ⟨h1, ⟨h.env, h2, kept_bel h.bel h3 h.lo, h.lo⟩, fun v l hv => hv.other h.s h3 (by decide)⟩
theorem St.next (h : St w0 w b L) {x : Int} {L' : List Int} (hx : L.headD 1 = x) (hL : L.tail = L') :
    Calls Tryd.prog 11 #[.pointer (some ⟨b, 0, none⟩)] w fun e w' => e = .returned (.int .i64 x) ∧ St w0 w' b L' ∧ Hid (∀ v l, Sl w v l → Sl w' v l) :=
  (next_ok b L w h.s).mono fun _ _ ⟨h1, h2, h3⟩ => by
    rw [hx] at h1
    rw [hL] at h2
    exact ⟨h1, ⟨h.env, h2, kept_bel h.bel h3 h.lo, h.lo⟩, fun v l hv => hv.other h.s h3 (by decide)⟩
theorem St.left (h : St w0 w b L) {n : Nat} (hn : L.length = n) : Calls Tryd.prog 10 #[.pointer (some ⟨b, 0, none⟩)] w fun e w' => e = .returned (.int .i64 n) ∧ w = w' :=
  (left_ok b L w h.s).mono fun _ _ ⟨h1, h2⟩ => ⟨by rw [h1, hn], h2⟩
theorem St.peek (h : St w0 w b L) (n : Int) {M : List Int} (hM : L.take n.toNat = M) : Calls Tryd.prog 9 #[.pointer (some ⟨b, 0, none⟩), .int .i64 n] w fun e w' => ∃ a c, e = .returned (.slice a M.length c) ∧ Sl w' (.slice a M.length c) M ∧ St w0 w' b L :=
  (peek_ok b n L w h.s).mono fun _ _ ⟨v, h1, h2, h3⟩ => by
    rw [hM] at h2
    have hs := Sl.of_own h2
    obtain ⟨a, c, rfl, hs2⟩ := hs.len
    exact ⟨a, c, h1, hs2, h.below h3⟩
end
end Go.Proofs.YtpgokoeedmipeaaDoor
