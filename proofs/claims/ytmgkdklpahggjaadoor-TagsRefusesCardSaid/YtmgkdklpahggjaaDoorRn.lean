/- Plain mathematics of TagsRefuses: with a piece that is no rune, or one that is not allowed, put in between runes, a tag is none; with a letter it is one up to 24 runes. -/
import Derived.Test.YtmgkdklpahggjaaDoorWe
import Derived.Test.YtmgkdklpahggjaaDoorRc
namespace Go.Proofs.YtmgkdklpahggjaaDoor
open Go.RowKit Go.Lib

/-- The twelve pieces. -/
def badB : Nat → ByteArray
  | 0 => ⟨#[0]⟩ | 1 => ⟨#[10]⟩ | 2 => ⟨#[31]⟩ | 3 => ⟨#[127]⟩ | 4 => ⟨#[255]⟩ | 5 => ⟨#[128]⟩ | 6 => ⟨#[192, 128]⟩ | 7 => ⟨#[237, 160, 128]⟩ | 8 => ⟨#[244, 144, 128, 128]⟩ | 9 => ⟨#[226, 130]⟩ | 10 => ⟨#[193, 191]⟩ | _ => ⟨#[248, 136, 128, 128, 128]⟩
theorem badB_size (m : Nat) : (badB m).size ≤ 5 := by
  unfold badB; split <;> decide

theorem noTag_bad {pre m : List UInt8} {ps : List Nat} (hp : Utf pre ps) (hne : m ≠ []) (hb : bad m) : NoTag (pre ++ m) := fun rs h => utf_bad hp hne hb h.utf
theorem noTag_rune {pre post : List UInt8} {ps qs : List Nat} (hp : Utf pre ps) (hq : Utf post qs) (c : Nat) (hc : c < 128) (hg : ¬ GoodR c) : NoTag (pre ++ (UInt8.ofNat c :: post)) := by
  intro rs h
  have hu : Utf (pre ++ (UInt8.ofNat c :: post)) (ps ++ c :: qs) := by
    have := utf_append hp (utf_cons (r := c) (.inl (by omega)) hq)
    rwa [encR_1 hc] at this
  have e := utf_unique h.utf hu
  exact hg (h.good c (by rw [e]; simp))
theorem bad_of {l : List UInt8} (h : decodeN l.length (l.getD 0 0).toNat (l.getD 1 0).toNat (l.getD 2 0).toNat (l.getD 3 0).toNat = (65533, 1)) : bad l := by
  unfold bad; rw [decodeL_N]; exact h
/-- The first byte of what stands behind is none that goes on. -/
theorem head_not_cont {post : List UInt8} {qs : List Nat} (hq : Utf post qs) : post = [] ∨ (post.getD 0 0).toNat < 128 ∨ 192 ≤ (post.getD 0 0).toNat := by
  cases qs with
  | nil => exact .inl hq.2
  | cons r qs =>
    obtain ⟨m, hr, rfl, _⟩ := utf_inv hq
    have hle := okRune_le hr
    right
    by_cases h1 : r < 128
    · rw [encR_1 h1]; left; simp only [List.cons_append, List.nil_append, List.getD_cons_zero]; rw [u8nat (by omega)]; exact h1
    by_cases h2 : r < 2048
    · rw [encR_2 (by omega) h2]; right; simp only [List.cons_append, List.nil_append, List.getD_cons_zero]; rw [u8nat (by omega)]; omega
    by_cases h3 : r < 65536
    · rw [encR_3 (by omega) h3]; right; simp only [List.cons_append, List.nil_append, List.getD_cons_zero]; rw [u8nat (by omega)]; omega
    · rw [encR_4 (by omega)]; right; simp only [List.cons_append, List.nil_append, List.getD_cons_zero]; rw [u8nat (by omega)]; omega
theorem noTag_piece {pre post : List UInt8} {ps qs : List Nat} (hp : Utf pre ps) (hq : Utf post qs) (m : Nat) : NoTag (pre ++ ((badB m).data.toList ++ post)) := by
  have hh := head_not_cont hq
  unfold badB
  split
  · exact noTag_rune hp hq 0 (by omega) (by unfold GoodR; omega)
  · exact noTag_rune hp hq 10 (by omega) (by unfold GoodR; omega)
  · exact noTag_rune hp hq 31 (by omega) (by unfold GoodR; omega)
  · exact noTag_rune hp hq 127 (by omega) (by unfold GoodR; omega)
  all_goals
    refine noTag_bad hp (by simp) (bad_of ?_)
    simp only [List.cons_append, List.nil_append, List.getD_cons_zero, List.getD_cons_succ, List.length_cons]
  · simp [decodeN]
  · simp [decodeN]
  · simp [decodeN]
  · simp [decodeN]
  · simp [decodeN]
  · rcases hh with rfl | h
    · simp [decodeN]
    · have hc : ¬ (post.getD 0 0).toNat / 64 = 2 := by omega
      generalize (post.getD 0 0).toNat = c at *
      simp [decodeN, hc]
  · simp [decodeN]
  · simp [decodeN]
/-- One more letter. -/
theorem tag_letter {pre post : List UInt8} {ps qs : List Nat} (hp : Utf pre ps) (hq : Utf post qs) (h : Tag (pre ++ post) (ps ++ qs)) :
    ((ps ++ qs).length < 24 ∧ Tag (pre ++ (113 :: post)) (ps ++ 113 :: qs)) ∨ (¬ (ps ++ qs).length < 24 ∧ NoTag (pre ++ (113 :: post))) := by
  have hu : Utf (pre ++ (113 :: post)) (ps ++ 113 :: qs) := utf_append hp (utf_cons (r := 113) (.inl (by omega)) hq)
  have hl : (ps ++ 113 :: qs).length = (ps ++ qs).length + 1 := by simp; omega
  by_cases h24 : (ps ++ qs).length < 24
  · refine .inl ⟨h24, hu, by omega, by omega, fun r hr => ?_⟩
    rcases List.mem_append.1 hr with h1 | h1
    · exact h.good r (by simp [h1])
    · rcases List.mem_cons.1 h1 with rfl | h2
      · omega
      · exact h.good r (by simp [h2])
  · refine .inr ⟨h24, fun rs hr => ?_⟩
    have e := utf_unique hr.utf hu
    have := hr.le
    rw [e] at this
    omega

/-- Where the runes begin, the first m of them. -/
def offs (rs : List Nat) (m : Nat) : List Nat := (List.range m).map fun i => ((rs.take i).flatMap encR).length
theorem offs_succ (rs : List Nat) (m : Nat) : offs rs (m + 1) = offs rs m ++ [((rs.take m).flatMap encR).length] := by
  unfold offs; rw [List.range_succ, List.map_append]; rfl
theorem offs_length (rs : List Nat) (m : Nat) : (offs rs m).length = m := by simp [offs]
theorem offs_get (rs : List Nat) (m j : Nat) (h : j < m) : (offs rs m)[j]? = some ((rs.take j).flatMap encR).length := by
  simp [offs, h]
end Go.Proofs.YtmgkdklpahggjaaDoor
