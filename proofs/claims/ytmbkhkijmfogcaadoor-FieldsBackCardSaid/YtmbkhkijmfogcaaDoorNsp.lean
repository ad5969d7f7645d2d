/- What strings.Split makes of an object's text; the text's words. -/
import Derived.Test.YtmbkhkijmfogcaaDoorNz
import Derived.Test.YtmbkhkijmfogcaaDoorNw
namespace Go.Proofs.YtmbkhkijmfogcaaDoor
open Go.RowKit

def headW (o : Ob) : List UInt8 := if o.h then hndW else objW
theorem headW_nosp (o : Ob) : ∀ x ∈ headW o, x ≠ 32 := by
  unfold headW
  split
  · decide
  · exact obj_nosp
theorem otxt_head {q : Ob} (h : Poss q) : otxt q = headW q ++ joined (words q) := by
  unfold otxt headW
  by_cases hh : q.h = true
  · have hl := words_len h
    rw [h.hh hh] at hl
    have : words q = [] := List.eq_nil_of_length_eq_zero hl
    rw [if_pos hh, if_pos hh, this, joined, List.append_nil]
  · rw [if_neg hh, if_neg hh]
theorem rtxt_dash {r : Rf} (h : rtxt r = [45]) : r = (0, 0) := by
  by_cases e : r = (0, 0)
  · exact e
  · unfold rtxt at h
    rw [if_neg e] at h
    have : (46 : UInt8) ∈ [(45 : UInt8)] := by rw [← h]; simp
    simp at this
/-- The words of a text: what they are, and that Split gives them. -/
theorem split_obj {q : Ob} (hq : Poss q) (s : ByteArray) (hs : s.data.toList = otxt q) {M : Nat} (hM : q.n = M) :
    ∃ P : List ByteArray, P.length = M + 1 ∧ P.map (·.data.toList) = headW q :: words q ∧ ∀ W, Env W → Calls Tryd.prog 29 #[.string s, .string ⟨#[32]⟩] W fun e w' => e = .returned (.slice (some ⟨W.heap.size, 0, none⟩) (M + 1) (M + 1)) ∧ W.alloc (.cells (P.map Value.string).toArray 9) = w' := by
  have hwl := words_len hq
  have hc : Lib.countB s ⟨#[32]⟩ = M := by
    show Lib.count s.data.toList [32] = M
    rw [Lib.count_one, hs, otxt_head hq, count_words _ _ (headW_nosp q) (words_nosp q), hwl]
    omega
  have hP : (Lib.splitB ⟨#[32]⟩ 0 M s).map (·.data.toList) = headW q :: words q := by
    rw [Lib.splitB_data, hs, otxt_head hq]
    exact splitK_words (words q) (headW q) M (headW_nosp q) (words_nosp q) (by omega)
  have hz := Lib.size_eq s
  rw [hs] at hz
  have hl := otxt_len hq
  refine ⟨Lib.splitB ⟨#[32]⟩ 0 M s, ?_, hP, fun W hW => ?_⟩
  · have := congrArg List.length hP
    rw [List.length_map, List.length_cons, hwl] at this
    omega
  · obtain ⟨m, hm⟩ := hW.ml
    refine (Tryd.strings_Split s ⟨#[32]⟩ m W (by omega) hm (by decide)).mono ?_
    rintro e w' ⟨rfl, rfl⟩
    rw [hc]
    exact ⟨rfl, rfl⟩
end Go.Proofs.YtmbkhkijmfogcaaDoor
