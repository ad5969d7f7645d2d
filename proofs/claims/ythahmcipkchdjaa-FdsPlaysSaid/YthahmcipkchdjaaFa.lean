/- The document's table of files: its words in memory; the contracts of its New, check, Close, Number. -/
import Derived.Test.YthahmcipkchdjaaFz
import Derived.StillTailTactics
namespace Go.Proofs.Ythahmcipkchdjaa
open Go.RowKit

/-- The four cells of an id. -/
def dcl (s g x : Nat) : List Value := [.bool (s == 1), .bool (s == 2), .int .u32 g, .int .i64 x]
def Fb.dcls (F : Fb) (k : Nat) : List Value := (List.range k).flatMap fun i => dcl (F.t.s i) (F.t.g i) (F.num i)
theorem dcls_len (F : Fb) : ∀ k, (F.dcls k).length = k * 4
  | 0 => rfl
  | k + 1 => by
    have := dcls_len F k
    unfold Fb.dcls at *
    rw [List.range_succ, List.flatMap_append, List.length_append, this]
    simp [dcl]; omega
theorem dcls_snoc (F : Fb) (k : Nat) : F.dcls (k + 1) = F.dcls k ++ dcl (F.t.s k) (F.t.g k) (F.num k) := by
  unfold Fb.dcls
  rw [List.range_succ, List.flatMap_append]; simp
theorem dcls_at (F : Fb) : ∀ (k i : Nat), i < k → ∀ q, q < 4 → (F.dcls k)[i * 4 + q]? = (dcl (F.t.s i) (F.t.g i) (F.num i))[q]?
  | 0, i, h, _, _ => by omega
  | k + 1, i, h, q, hq => by
    rw [dcls_snoc]
    by_cases e : i = k
    · subst e
      rw [List.getElem?_append_right (by rw [dcls_len]; omega), dcls_len, show i * 4 + q - i * 4 = q by omega]
    · rw [List.getElem?_append_left (by rw [dcls_len]; omega)]; exact dcls_at F k i (by omega) q hq
/-- The document's table: its struct's block c, its ids' block d. -/
structure DW (w : World) (c d : Nat) (F : Fb) : Prop where
  ok : F.Ok
  at_ : ∃ (cap : Nat) (cur : Array Value), Bk w c 82 #[.slice (some ⟨d, 0, none⟩) F.t.n cap] ∧ Bk w d 84 cur ∧ cur.size = cap * 4 ∧ F.t.n ≤ cap ∧ cap ≤ maxLen ∧ ∀ i, i < F.t.n → ∀ q, q < 4 → cur[i * 4 + q]? = (dcl (F.t.s i) (F.t.g i) (F.num i))[q]?
def DFoot (c d g : Nat) : Prop := g = c ∨ g = d
section
variable {w w' : World} {c d : Nat} {F : Fb}
theorem DW.ct (h : DW w c d F) : c < w.heap.size := by obtain ⟨_, _, h1, _⟩ := h.at_; exact h1.lt
theorem DW.dt (h : DW w c d F) : d < w.heap.size := by obtain ⟨_, _, _, h1, _⟩ := h.at_; exact h1.lt
theorem DW.ne (h : DW w c d F) : c ≠ d := by
  obtain ⟨_, _, h1, h2, _⟩ := h.at_
  rintro rfl
  exact absurd (h1.uniq h2).1 (by decide)
theorem DW.same (h : DW w c d F) (e1 : w'.heap[c]? = w.heap[c]?) (e2 : w'.heap[d]? = w.heap[d]?) : DW w' c d F :=
  ⟨h.ok, by obtain ⟨cap, cur, h1, h2, hr⟩ := h.at_; exact ⟨cap, cur, h1.same e1, h2.same e2, hr⟩⟩
theorem DW.kept {S : Nat → Prop} (h : DW w c d F) (k : Kept S w w') (hc : ¬ S c) (hd : ¬ S d) : DW w' c d F := h.same (k.block c h.ct hc) (k.block d h.dt hd)
theorem DW.below (h : DW w c d F) (k : Below w.heap.size w w') : DW w' c d F := h.same (k.block c h.ct) (k.block d h.dt)
theorem DW.c0 (h : DW w c d F) : ∃ cap, w.cell? ⟨c, 0, none⟩ = some (.slice (some ⟨d, 0, none⟩) F.t.n cap) ∧ F.t.n ≤ cap ∧ cap ≤ 9223372036854775807 := by
  obtain ⟨cap, _, h1, _, _, h2, h3, _⟩ := h.at_; exact ⟨cap, h1.cell 0, h2, by unfold maxLen at h3; omega⟩
theorem DW.ci (h : DW w c d F) {i : Nat} (hi : i < F.t.n) : w.cell? ⟨d, i * 4, none⟩ = some (.bool (F.t.s i == 1)) ∧ w.cell? ⟨d, i * 4 + 1, none⟩ = some (.bool (F.t.s i == 2)) ∧ w.cell? ⟨d, i * 4 + 2, none⟩ = some (.int .u32 (F.t.g i)) ∧ w.cell? ⟨d, i * 4 + 3, none⟩ = some (.int .i64 (F.num i)) := by
  obtain ⟨_, cur, _, h1, _, _, _, h2⟩ := h.at_
  refine ⟨?_, ?_, ?_, ?_⟩ <;> rw [h1.cell]
  · exact h2 i hi 0 (by omega)
  · exact h2 i hi 1 (by omega)
  · exact h2 i hi 2 (by omega)
  · exact h2 i hi 3 (by omega)
theorem DW.fz (h : DW w c d F) (i : Nat) : w.frozen? ⟨d, i, none⟩ = false := by obtain ⟨_, cur, _, h1, _⟩ := h.at_; exact h1.frozen i
/-- One id's cells stored anew. -/
theorem DW.put {F' : Fb} (h : DW w c d F) {i : Nat} (hi : i < F.t.n) (ho : F'.Ok) (hn : F'.t.n = F.t.n) (hj : ∀ j, j ≠ i → F'.t.s j = F.t.s j ∧ F'.t.g j = F.t.g j ∧ F'.num j = F.num j) (hk : Kept (· = d) w w')
    (hnew : ∃ cur, Bk w d 84 cur ∧ ∃ cur', Bk w' d 84 cur' ∧ cur'.size = cur.size ∧ (∀ k, (k < i * 4 ∨ i * 4 + 4 ≤ k) → cur'[k]? = cur[k]?) ∧ ∀ q, q < 4 → cur'[i * 4 + q]? = (dcl (F'.t.s i) (F'.t.g i) (F'.num i))[q]?) : DW w' c d F' := by
  have hne := h.ne
  obtain ⟨cap, cur, h1, h2, h3, h4, h5, h6⟩ := h.at_
  obtain ⟨cur0, k1, cur', k2, k3, k4, k5⟩ := hnew
  obtain ⟨_, rfl⟩ := h2.uniq k1
  refine ⟨ho, cap, cur', by rw [hn]; exact h1.kept hk hne, k2, k3.trans h3, by rw [hn]; exact h4, h5, fun j hj' q hq => ?_⟩
  by_cases e : j = i
  · subst e; exact k5 q hq
  · obtain ⟨e1, e2, e3⟩ := hj j e
    rw [k4 _ (by omega), h6 j (by rw [← hn]; exact hj') q hq, e1, e2, e3]
end
end Go.Proofs.Ythahmcipkchdjaa
