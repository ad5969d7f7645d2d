/- What the walk of the statement AnswerKeeps uses: the state of two sources of the program side by side, and what their calls do to it; small facts on slices and one-byte texts. -/
import Derived.Test.YtpgokoeedmipeaaDoorLAOrd
import Derived.Deep.Cut
import Derived.Deep.CutRange
namespace Go.Proofs.YtpgokoeedmipeaaDoor
open Go.RowKit

/-- Two sources of the program: b has L, d has M. -/
structure KSt (w0 w : World) (b d : Nat) (L M : List Int) : Prop where
  env : Env w0
  s : SrcW 39 w b L
  t : SrcW 39 w d M
  ne : b ≠ d
  bel : Below w0.heap.size w0 w
  lb : w0.heap.size ≤ b
  ld : w0.heap.size ≤ d
section
variable {w0 w w' : World} {b d : Nat} {L M : List Int}
theorem KSt.e (h : KSt w0 w b d L M) : Env w := h.env.below h.bel
theorem KSt.below (h : KSt w0 w b d L M) (k : Below w.heap.size w w') : KSt w0 w' b d L M := ⟨h.env, h.s.below k, h.t.below k, h.ne, bel2 h.bel k, h.lb, h.ld⟩
theorem KSt.same (h : KSt w0 w b d L M) (e1 : w'.heap = w.heap) (e2 : w'.os = w.os) (e3 : w'.tape = w.tape) (e4 : w'.output = w.output) : KSt w0 w' b d L M :=
  h.below ⟨e2, e3, e4, by rw [e1]; exact Nat.le_refl _, fun k _ => by rw [e1]⟩
theorem KSt.swap (h : KSt w0 w b d L M) : KSt w0 w d b M L := ⟨h.env, h.t, h.s, h.ne.symm, h.bel, h.ld, h.lb⟩
theorem KSt.next (h : KSt w0 w b d L M) {x : Int} {L' : List Int} (hx : L.headD 1 = x) (hL : L.tail = L') :
    Calls Tryd.prog 11 #[.pointer (some ⟨b, 0, none⟩)] w fun e w' => e = .returned (.int .i64 x) ∧ KSt w0 w' b d L' M :=
  (next_ok b L w h.s).mono fun _ _ ⟨h1, h2, h3⟩ => by
    rw [hx] at h1
    rw [hL] at h2
    exact ⟨h1, h.env, h2, h.t.other h.s h3 h.ne.symm (by decide), h.ne, kept_bel h.bel h3 h.lb, h.lb, h.ld⟩
theorem KSt.add (h : KSt w0 w b d L M) (s : ByteArray) {bs : List UInt8} (hb : s.data.toList = bs) (hs : s.size ≤ 140737488351232) {E : Nat} {L' : List Int} (hE : aE L bs = E) (hL : aL L bs = L') :
    Calls Tryd.prog 6 #[.pointer (some ⟨b, 0, none⟩), .string s] w fun e w' => e = .returned (.int .i64 E) ∧ KSt w0 w' b d L' M :=
  (add_ok s b L w h.e h.s hs).mono fun _ _ ⟨h1, h2, h3⟩ => by
    rw [hb] at h1 h2
    rw [hE] at h1
    rw [hL] at h2
    exact ⟨h1, h.env, h2, h.t.other h.s h3 h.ne.symm (by decide), h.ne, kept_bel h.bel h3 h.lb, h.lb, h.ld⟩
theorem KSt.left (h : KSt w0 w b d L M) {n : Nat} (hn : L.length = n) : Calls Tryd.prog 10 #[.pointer (some ⟨b, 0, none⟩)] w fun e w' => e = .returned (.int .i64 n) ∧ w = w' :=
  (left_ok b L w h.s).mono fun _ _ ⟨h1, h2⟩ => ⟨by rw [h1, hn], h2⟩
end
/-- The elements from k on. -/
theorem Rd.drop {q : IntKind} {w : World} {g off n c k : Nat} {l : List Int} (h : Rd q w (.slice (some ⟨g, off, none⟩) n c) l) (hk : k ≤ l.length) : Rd q w (.slice (some ⟨g, off + k, none⟩) (l.length - k) (c - k)) (l.drop k) := by
  obtain ⟨a', c', e, h1, h2, h3, h4⟩ := h
  injection e with e1 e2 e3
  subst e1 e3
  refine ⟨_, c - k, by rw [List.length_drop], by rw [List.length_drop]; omega, by omega, fun e => (by cases e), fun h0 => ?_⟩
  rw [List.length_drop] at h0
  obtain ⟨g', off', e4, hg, hc⟩ := h4 (by omega)
  injection e4 with e4
  injection e4 with e5 e6
  subst e5 e6
  refine ⟨g, off + k, rfl, hg, fun j x hj => ?_⟩
  rw [List.getElem?_drop] at hj
  rw [Nat.add_assoc]
  exact hc _ _ hj
theorem U8.nil (w : World) (a : Option Addr) (c : Nat) (hc : c ≤ 9223372036854775807) (ha : a = none → c = 0) : U8 w a 0 c [] :=
  ⟨⟨a, c, rfl, by simp, hc, ha, fun h => by simp at h⟩, fun _ h => by cases h⟩
theorem at_sl {w : World} {R : Ending → World → Prop} (a : Option Addr) (n c : Nat) (h : Calls Tryd.prog 7 #[.slice a n c] w R) : Calls Tryd.prog 7 #[.slice a n c] w R := h
theorem bal {w W : World} (h : Below w.heap.size w W) (o : Obj) : Below w.heap.size w (W.alloc o) := h.alloc h.size _
theorem tmp_cell (W : World) (o : Int) : (W.alloc (.cells #[.int .u8 o] 5)).cell? ⟨W.heap.size, 0, none⟩ = some (.int .u8 o) := (Bk.new W 5 #[.int .u8 o]).cell 0
theorem drop_hd {A : List Int} {k : Nat} {x : Int} (h : A[k]? = some x) : (A.drop k).headD 1 = x := by
  rw [List.headD_eq_head?_getD, List.head?_drop, h]; rfl
theorem conv_one (W : World) (p : Nat) (b : UInt8) (hW : W.cell? ⟨p, 0, none⟩ = some (.int .u8 b.toNat)) :
    (convert 22 9 (.slice (some ⟨p, 0, none⟩) 1 1)).run Tryd.prog W = .ok (.string (str [b])) W :=
  run_convert_bytes_back (P := Tryd.prog) W 22 9 5 ⟨p, 0, none⟩ 1 [b] Tryd.underlying22 Tryd.underlying5 Tryd.underlying9 (fun j hj => by
    obtain rfl : j = 0 := by simpa using hj
    simpa [Addr.add] using hW)
end Go.Proofs.YtpgokoeedmipeaaDoor
