/- Letters of numbers, read and written: what several statements share. -/
import Derived.Test.YtpgokoeedmipeaaDoorAo
namespace Go.Proofs.YtpgokoeedmipeaaDoor
open Go.RowKit

/-- Bytes among the arguments. -/
structure U8 (w : World) (a : Option Addr) (n c : Nat) (l : List Int) : Prop where
  r : Rd .u8 w (.slice a n c) l
  b : ∀ x ∈ l, 0 ≤ x ∧ x ≤ 255
theorem U8.below {w w' : World} {a : Option Addr} {n c : Nat} {l : List Int} (h : U8 w a n c l) (hb : Below w.heap.size w w') : U8 w' a n c l := ⟨h.r.below hb, h.b⟩
theorem U8.len {w : World} {a : Option Addr} {n c : Nat} {l : List Int} (h : U8 w a n c l) : n = l.length := h.r.cap.1
theorem let_str (a : Option Addr) (n c : Nat) (l : List Int) (w : World) (h : U8 w a n c l) (hl : l.length ≤ 2500) {s : ByteArray} (hs : str (text (ans_ l)) = s) :
    Calls Tryd.prog 7 #[.slice a n c] w fun e w' => e = .returned (.string s) ∧ Below w.heap.size w w' :=
  (letters_ok a n c l w h.r h.b hl).mono fun _ _ ⟨h1, h2⟩ => ⟨by rw [h1, hs], h2⟩
theorem print_str (a : Option Addr) (n c : Nat) {l : List Int} (w : World) (he : Env w) (hr : Rd .i64 w (.slice a n c) l) {s : ByteArray} {E : Nat} (hT : str (wT l) = s) (hE : wE l = E) :
    Calls Tryd.prog 12 #[.slice a n c] w fun e w' => e = .returned (.tuple #[.string s, .int .i64 E]) ∧ Below w.heap.size w w' :=
  (print_ok a n c l w he hr).mono fun _ _ ⟨h1, h2⟩ => ⟨by rw [h1, hE, ← hT]; rfl, h2⟩
theorem eq_self (s : ByteArray) : (s.toList == s.toList) = true := by simp
/-- What letters make is good. -/
theorem pE_let (l : List Int) (h : l.length ≤ 2000) : pE (text (ans_ l)) = 0 := pE_ok (by rw [text_length, ans_length]; exact h) (good_text (ans_ok l))
theorem pL_let (l : List Int) (h : l.length ≤ 2000) : pL (text (ans_ l)) = ans_ l := by rw [pL_ok (pE_let l h), nums_text (ans_ok l)]
theorem wE_let (l : List Int) (h : l.length ≤ 2000) : wE (ans_ l) = 0 := wE_ok (by rw [ans_length]; exact h) (ans_ok l)
theorem wT_let (l : List Int) (h : l.length ≤ 2000) : wT (ans_ l) = text (ans_ l) := wT_ok (wE_let l h)
theorem size_let {l : List Int} {s : ByteArray} (hs : str (text (ans_ l)) = s) : s.size = l.length := by rw [← hs, str_size, text_length, ans_length]
theorem data_let {l : List Int} {s : ByteArray} (hs : str (text (ans_ l)) = s) : s.data.toList = text (ans_ l) := by rw [← hs]; rfl
end Go.Proofs.YtpgokoeedmipeaaDoor
