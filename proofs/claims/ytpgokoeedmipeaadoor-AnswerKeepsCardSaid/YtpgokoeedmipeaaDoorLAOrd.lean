/- The walk of the statement AnswerOrder: it returns true for all texts of letters. -/
import Derived.Test.YtpgokoeedmipeaaDoorAeo
namespace Go.Proofs.YtpgokoeedmipeaaDoor
open Go.RowKit

/-- What has been added of the rows ls. -/
def wants (ls : List (List Int)) : List Int := ls.flatMap ans_
theorem wants_snoc (ls : List (List Int)) (k : Nat) (h : k < ls.length) : wants (ls.take (k + 1)) = wants (ls.take k) ++ ans_ ls[k] := by
  unfold wants
  rw [List.take_succ_eq_append_getElem h, List.flatMap_append]; simp
theorem wants_le (ls : List (List Int)) (h : ∀ r ∈ ls, r.length ≤ 60) : (wants ls).length ≤ 60 * ls.length := by
  induction ls with
  | nil => simp [wants]
  | cons r rs ih =>
    have h1 := h r (by simp)
    have h2 := ih fun x hx => h x (by simp [hx])
    have e : wants (r :: rs) = ans_ r ++ wants rs := by simp [wants]
    rw [e, List.length_append, ans_length, List.length_cons]
    omega
theorem St.same {w0 w w' : World} {b : Nat} {L : List Int} (h : St w0 w b L) (e1 : w'.heap = w.heap) (e2 : w'.os = w.os) (e3 : w'.tape = w.tape) (e4 : w'.output = w.output) : St w0 w' b L :=
  ⟨h.env, ⟨h.s.ok, by obtain ⟨a, c, h1, h2⟩ := h.s.at_; exact ⟨a, c, h1.same (by rw [e1]), h2.same fun _ _ _ => by rw [e1]⟩⟩, ⟨e2.trans h.bel.os, e3.trans h.bel.tape, e4.trans h.bel.output, by rw [e1]; exact h.bel.size, fun k hk => by rw [e1]; exact h.bel.block k hk⟩, h.lo⟩
theorem St.peekb {w0 w : World} {b : Nat} {L : List Int} (h : St w0 w b L) (n : Int) {M : List Int} (hM : L.take n.toNat = M) : Calls Tryd.prog 9 #[.pointer (some ⟨b, 0, none⟩), .int .i64 n] w fun e w' => ∃ a c, e = .returned (.slice a M.length c) ∧ Sl w' (.slice a M.length c) M ∧ St w0 w' b L ∧ Below w.heap.size w w' :=
  (peek_ok b n L w h.s).mono fun _ _ ⟨v, h1, h2, h3⟩ => by
    rw [hM] at h2
    have hs := Sl.of_own h2
    obtain ⟨a, c, rfl, hs2⟩ := hs.len
    exact ⟨a, c, h1, hs2, h.below h3, h3⟩
theorem Sl.val {w : World} {g off n c j : Nat} {l : List Int} {x : Int} (h : Sl w (.slice (some ⟨g, off, none⟩) n c) l) (hj : l[j]? = some x) : w.cell? ⟨g, off + j, none⟩ = some (.int .i64 x) := by
  have hjl := (List.getElem?_eq_some_iff.1 hj)
  obtain ⟨g', off', e, _, hc, _⟩ := h.cell hjl.1
  injection e with e
  injection e with e1 e2
  subst e1 e2
  rw [hc, hjl.2]
/-- The state of loop 1: the source has what want holds; the blocks of both differ. -/
structure OSt (w0 w : World) (b : Nat) (v : Value) (L W : List Int) : Prop where
  s : St w0 w b L
  o : w.ownsRow w0.heap.size 3 1 v W.length (ints W)
  at_ : At w b fun k => v.ownBlock ≠ some k
theorem OSt.ne {w0 w : World} {b : Nat} {v : Value} {L W : List Int} (h : OSt w0 w b v L W) : v.ownBlock ≠ some b := fun e => by
  rcases h.o.2 with ⟨rfl, _⟩ | ⟨g, cap, cur, rfl, _, hg, _⟩
  · simp [Value.ownBlock] at e
  · obtain rfl : g = b := by simpa [Value.ownBlock] using e
    obtain ⟨a, c, h1, _⟩ := h.s.s.at_
    exact absurd ((show Bk w g 3 cur from hg).uniq h1).1 (by decide)
theorem OSt.below {w0 w w' : World} {b : Nat} {v : Value} {L W : List Int} (h : OSt w0 w b v L W) (k : Below w.heap.size w w') : OSt w0 w' b v L W :=
  ⟨h.s.below k, own_below h.o k, h.at_.below k⟩
/-- A number is appended to want. -/
theorem OSt.app {w0 w w' : World} {b : Nat} {v v' : Value} {L W : List Int} {x : Int} {tmp : Obj} (h : OSt w0 w b v L W)
    (hown : w'.ownsRow w0.heap.size 3 1 v' (W ++ [x]).length (ints (W ++ [x]))) (hgrow : (w.alloc tmp).grownBy w' v.ownBlock) (hat : v'.ownBlock = v.ownBlock ∨ v'.ownBlock = some (w.alloc tmp).heap.size) : OSt w0 w' b v' L (W ++ [x]) := by
  have hlo := h.s.bel.size
  have hne := h.ne
  have keep : ∀ k, k < w.heap.size → v.ownBlock ≠ some k → w'.heap[k]? = w.heap[k]? := fun k hk hn => by
    rw [hgrow.block k (by simp; omega) (fun e => hn e.symm)]
    exact Below.heap_alloc _ _ _ hk
  obtain ⟨a, c, h1, h2⟩ := h.s.s.at_
  have hoff := h.at_.here (h1.cell 1)
  obtain ⟨a', c', e, q1, q2, q3, q4⟩ := h2
  injection e with e1 e2 e3
  subst e1 e3
  have hbk : Bk w' b 39 #[.bool true, .slice a L.length c] := h1.same (keep b h1.lt hne)
  refine ⟨⟨h.s.env, ⟨h.s.s.ok, a, c, hbk, a, c, rfl, q1, q2, q3, fun b' hb' => ?_⟩, (h.s.bel.alloc hlo tmp).grown hgrow (by simp; omega) (fun k hk => (h.o.lt k hk).1), h.s.lo⟩, hown, a, _, _, hbk.cell 1, fun a0 ha => ?_⟩
  · obtain ⟨g, off, cur, e4, hg, hc⟩ := q4 b' hb'
    exact ⟨g, off, cur, e4, hg.same (keep g hg.lt (by have := hoff b' hb'; rw [e4] at this; exact this)), hc⟩
  · obtain ⟨g, off, cur, e4, hg, hc⟩ := q4 a0 ha
    have hlt := hg.lt
    rcases hat with e | e
    · rw [e]; exact hoff a0 ha
    · rw [e, e4]
      intro e5
      have := Option.some.inj e5
      simp at this
      omega
/-- A text is added. -/
theorem OSt.add {w0 w : World} {b : Nat} {v : Value} {L W : List Int} (h : OSt w0 w b v L W) (s : ByteArray) {bs : List UInt8} (hb : s.data.toList = bs) (hs : s.size ≤ 140737488351232) {L' : List Int} (hE : aE L bs = 0) (hL : aL L bs = L') :
    Calls Tryd.prog 6 #[.pointer (some ⟨b, 0, none⟩), .string s] w fun e w' => e = .returned (.int .i64 0) ∧ OSt w0 w' b v L' W :=
  (add_at s b L w h.s.e h.s.s hs).mono fun _ w' ⟨h1, h2, h3, h4⟩ => by
    rw [hb] at h1 h2
    rw [hE] at h1
    rw [hL] at h2
    refine ⟨h1, ⟨h.s.env, h2, kept_bel h.s.bel h3 h.s.lo, h.s.lo⟩, ⟨h.o.1, ?_⟩, h4.out _ (fun k hk e => ?_) h.at_⟩
    · rcases h.o.2 with h5 | ⟨g, cap, cur, h5, h6, h7, h8⟩
      · exact .inl h5
      · refine .inr ⟨g, cap, cur, h5, h6, (show Bk w g 3 cur from h7).kept h3 (fun e => h.ne ?_), h8⟩
        subst h5
        have e' : g = b := e
        subst e'
        rfl
    · have := (h.o.lt k e).2
      omega

end Go.Proofs.YtpgokoeedmipeaaDoor
