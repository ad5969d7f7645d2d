/- The document's pool: its words in memory; the contracts of its valid, find. -/
import Derived.Test.YtjhgckaaaonbiaaUv
import Derived.StillTailTactics
import Derived.Deep.QuietTactic
import Derived.BigQuiet
namespace Go.Proofs.Ytjhgckaaaonbiaa
open Go.RowKit

/-- The bytes that the document keeps of an id. -/
def Po.bx (P : Po) (i : Nat) : Nat := if P.t.s i = 1 then P.m i else 0
/-- The four cells of an id. -/
def dcl (s g x : Nat) : List Value := [.bool (s == 1), .bool (s == 2), .int .u32 g, .int .i64 x]
def Po.dcls (F : Po) (k : Nat) : List Value := (List.range k).flatMap fun i => dcl (F.t.s i) (F.t.g i) (F.bx i)
theorem dcls_len (F : Po) : ∀ k, (F.dcls k).length = k * 4
  | 0 => rfl
  | k + 1 => by
    have := dcls_len F k
    unfold Po.dcls at *
    rw [List.range_succ, List.flatMap_append, List.length_append, this]
    simp [dcl]; omega
theorem dcls_snoc (F : Po) (k : Nat) : F.dcls (k + 1) = F.dcls k ++ dcl (F.t.s k) (F.t.g k) (F.bx k) := by
  unfold Po.dcls
  rw [List.range_succ, List.flatMap_append]; simp
theorem dcls_at (F : Po) : ∀ (k i : Nat), i < k → ∀ q, q < 4 → (F.dcls k)[i * 4 + q]? = (dcl (F.t.s i) (F.t.g i) (F.bx i))[q]?
  | 0, i, h, _, _ => by omega
  | k + 1, i, h, q, hq => by
    rw [dcls_snoc]
    by_cases e : i = k
    · subst e
      rw [List.getElem?_append_right (by rw [dcls_len]; omega), dcls_len, show i * 4 + q - i * 4 = q by omega]
    · rw [List.getElem?_append_left (by rw [dcls_len]; omega)]; exact dcls_at F k i (by omega) q hq
/-- The document's pool: its struct's block c, its ids' block d. -/
structure DW (w : World) (c d : Nat) (F : Po) : Prop where
  ok : F.Ok
  at_ : ∃ (cap : Nat) (cur : Array Value), Bk w c 76 #[.bool true, .int .i64 F.room, .slice (some ⟨d, 0, none⟩) F.t.n cap] ∧ Bk w d 78 cur ∧ cur.size = cap * 4 ∧ F.t.n ≤ cap ∧ cap ≤ maxLen ∧ ∀ i, i < F.t.n → ∀ q, q < 4 → cur[i * 4 + q]? = (dcl (F.t.s i) (F.t.g i) (F.bx i))[q]?
section
variable {w w' : World} {c d : Nat} {F : Po}
theorem DW.ct (h : DW w c d F) : c < w.heap.size := by obtain ⟨_, _, h1, _⟩ := h.at_; exact h1.lt
theorem DW.dt (h : DW w c d F) : d < w.heap.size := by obtain ⟨_, _, _, h1, _⟩ := h.at_; exact h1.lt
theorem DW.ne (h : DW w c d F) : c ≠ d := by
  obtain ⟨_, _, h1, h2, _⟩ := h.at_
  rintro rfl
  exact absurd (h1.uniq h2).1 (by decide)
theorem DW.same (h : DW w c d F) (e1 : w'.heap[c]? = w.heap[c]?) (e2 : w'.heap[d]? = w.heap[d]?) : DW w' c d F :=
  ⟨h.ok, by obtain ⟨cap, cur, h1, h2, hr⟩ := h.at_; exact ⟨cap, cur, h1.same e1, h2.same e2, hr⟩⟩
theorem DW.kept {S : Nat → Prop} (h : DW w c d F) (k : Kept S w w') (hc : ¬ S c) (hd : ¬ S d) : DW w' c d F := h.same (k.block c h.ct hc) (k.block d h.dt hd)
theorem DW.below (h : DW w c d F) (k : Below w.heap.size w w') : DW w' c d F := h.same (k.block c h.ct) (k.block d h.dt)
theorem DW.c0 (h : DW w c d F) : ∃ cap, w.cell? ⟨c, 0, none⟩ = some (.bool true) ∧ w.cell? ⟨c, 1, none⟩ = some (.int .i64 F.room) ∧ w.cell? ⟨c, 2, none⟩ = some (.slice (some ⟨d, 0, none⟩) F.t.n cap) ∧ F.t.n ≤ cap ∧ cap ≤ 9223372036854775807 := by
  obtain ⟨cap, _, h1, _, _, h2, h3, _⟩ := h.at_; exact ⟨cap, h1.cell 0, h1.cell 1, h1.cell 2, h2, by unfold maxLen at h3; omega⟩
theorem DW.ci (h : DW w c d F) {i : Nat} (hi : i < F.t.n) : w.cell? ⟨d, i * 4, none⟩ = some (.bool (F.t.s i == 1)) ∧ w.cell? ⟨d, i * 4 + 1, none⟩ = some (.bool (F.t.s i == 2)) ∧ w.cell? ⟨d, i * 4 + 2, none⟩ = some (.int .u32 (F.t.g i)) ∧ w.cell? ⟨d, i * 4 + 3, none⟩ = some (.int .i64 (F.bx i)) := by
  obtain ⟨_, cur, _, h1, _, _, _, h2⟩ := h.at_
  refine ⟨?_, ?_, ?_, ?_⟩ <;> rw [h1.cell]
  · exact h2 i hi 0 (by omega)
  · exact h2 i hi 1 (by omega)
  · exact h2 i hi 2 (by omega)
  · exact h2 i hi 3 (by omega)
end
set_option maxHeartbeats 1000000 in
theorem dvalid_eq (c d : Nat) (F : Po) (w : World) (h : DW w c d F) : Calls Try.prog 30 #[.pointer (some ⟨c, 0, none⟩)] w fun e w' => e = .returned (.bool true) ∧ w = w' := by
  obtain ⟨cap, c0, c1, c2, h1, h2⟩ := h.c0
  clear h
  go_enter Try.func30, Try.ntmps30
  go_wp2
  go_ret
  exact ⟨rfl, rfl⟩
theorem dvalid_ok (c d : Nat) (F : Po) (w : World) (h : DW w c d F) : Calls Try.prog 30 #[.pointer (some ⟨c, 0, none⟩)] w fun e w' => e = .returned (.bool true) ∧ Below w.heap.size w w' :=
  (dvalid_eq c d F w h).mono fun _ _ h => ⟨h.1, by rw [← h.2]; exact Below.refl _ _⟩
theorem dvalid_nil (w : World) : Calls Try.prog 30 #[.pointer none] w fun e w' => e = .returned (.bool false) ∧ Below w.heap.size w w' := by
  go_enter Try.func30, Try.ntmps30
  go_wp2
  go_ret
  exact ⟨rfl, Below.refl _ _⟩
/-- The three cells of a resource, boxed. -/
theorem box_o {w w2 : World} {x y z : Value} (hb : Below (w.alloc (.cells #[x, y, z] 34)).heap.size (w.alloc (.cells #[x, y, z] 34)) w2) : w2.cell? ⟨w.heap.size, 0, none⟩ = some x ∧ w2.cell? ⟨w.heap.size, 1, none⟩ = some y ∧ w2.cell? ⟨w.heap.size, 2, none⟩ = some z ∧ w.heap.size < w2.heap.size := by
  have h := (Bk.new w 34 #[x, y, z]).below hb
  exact ⟨h.cell 0, h.cell 1, h.cell 2, h.lt⟩
set_option maxHeartbeats 2000000 in
theorem dfind_kind (c d : Nat) (F : Po) (x y z : Int) (hx : x ≠ 2) (w : World) (h : DW w c d F) : Calls Try.prog 39 #[.pointer (some ⟨c, 0, none⟩), .agg #[.int .i64 x, .int .i64 y, .int .u32 z]] w fun e w' => e = .returned (.int .i64 2) ∧ Below w.heap.size w w' := by
  have hx2 : (x != 2) = true := by simpa using hx
  have HV : Hid (∀ W, Below w.heap.size w W → Calls Try.prog 30 #[.pointer (some ⟨c, 0, none⟩)] W fun e w' => e = .returned (.bool true) ∧ Below W.heap.size W w') := fun W hW => dvalid_ok c d F W (h.below hW)
  clear h hx
  go_enter Try.func39, Try.ntmps39
  go_wp2_with (go_at_call 30; refine (HV.out _ ((Below.refl _ _).alloc (Nat.le_refl _) _)).mono ?_; rintro e w2 ⟨rfl, hb2⟩; have HB := Lib.hid (bel2 ((Below.refl _ _).alloc (Nat.le_refl _) _) hb2); obtain ⟨q0, q1, q2, q3⟩ := box_o hb2; clear hb2)
  go_ret
  exact ⟨rfl, HB.out⟩
set_option maxHeartbeats 2000000 in
theorem dfind_neg (c d : Nat) (F : Po) (y z : Int) (hy : y < 0) (w : World) (h : DW w c d F) : Calls Try.prog 39 #[.pointer (some ⟨c, 0, none⟩), .agg #[.int .i64 2, .int .i64 y, .int .u32 z]] w fun e w' => e = .returned (.int .i64 3) ∧ Below w.heap.size w w' := by
  have HV : Hid (∀ W, Below w.heap.size w W → Calls Try.prog 30 #[.pointer (some ⟨c, 0, none⟩)] W fun e w' => e = .returned (.bool true) ∧ Below W.heap.size W w') := fun W hW => dvalid_ok c d F W (h.below hW)
  clear h
  go_enter Try.func39, Try.ntmps39
  go_wp2_with (go_at_call 30; refine (HV.out _ ((Below.refl _ _).alloc (Nat.le_refl _) _)).mono ?_; rintro e w2 ⟨rfl, hb2⟩; have HB := Lib.hid (bel2 ((Below.refl _ _).alloc (Nat.le_refl _) _) hb2); obtain ⟨q0, q1, q2, q3⟩ := box_o hb2; clear hb2)
  go_quiet (fail)
  go_wp2
  go_ret
  exact ⟨rfl, bel_drewN HB.out _⟩
set_option maxHeartbeats 4000000 in
theorem dfind_at (c d i : Nat) (F : Po) (z : Int) (E : Int) (hE : F.t.chk i z = E) (w : World) (h : DW w c d F) : Calls Try.prog 39 #[.pointer (some ⟨c, 0, none⟩), .agg #[.int .i64 2, .int .i64 i, .int .u32 z]] w fun e w' => e = .returned (.int .i64 E) ∧ Below w.heap.size w w' := by
  have HV : Hid (∀ W, Below w.heap.size w W → Calls Try.prog 30 #[.pointer (some ⟨c, 0, none⟩)] W fun e w' => e = .returned (.bool true) ∧ Below W.heap.size W w') := fun W hW => dvalid_ok c d F W (h.below hW)
  have HC : Hid (∀ W, Below w.heap.size w W → DW W c d F) := fun W hW => h.below hW
  have hnb : F.t.n ≤ 64 := h.ok.hi
  obtain ⟨n, hn⟩ : ∃ n, F.t.n = n := ⟨_, rfl⟩
  rw [hn] at hnb
  by_cases hin : i < n
  · have hs : (F.t.s i = 1 ∧ (F.t.g i : Int) = z ∧ E = 0) ∨ (F.t.s i = 1 ∧ (F.t.g i : Int) ≠ z ∧ E = 7) ∨ (F.t.s i ≠ 1 ∧ E = 7) := by
      rw [← hE]
      unfold Tb.chk
      rw [if_neg (by rw [hn]; omega)]
      simp only [Int.toNat_natCast]
      by_cases h1 : F.t.s i = 1
      · by_cases h2 : (F.t.g i : Int) = z
        · exact .inl ⟨h1, h2, if_pos ⟨h1, h2⟩⟩
        · exact .inr (.inl ⟨h1, h2, if_neg fun e => h2 e.2⟩)
      · exact .inr (.inr ⟨h1, if_neg fun e => h1 e.1⟩)
    clear h hE
    have HN := Lib.hid hn
    clear hn
    rcases hs with ⟨h1, h2, rfl⟩ | ⟨h1, h2, rfl⟩ | ⟨h1, rfl⟩
    · have hb : Hid ((F.t.s i == 1) = true) := by simp [h1, Hid]
      have H2 := Lib.hid h2
      clear h1 h2
      go_enter Try.func39, Try.ntmps39
      go_wp2_with (go_at_call 30; refine (HV.out _ ((Below.refl _ _).alloc (Nat.le_refl _) _)).mono ?_; rintro e w2 ⟨rfl, hb2⟩; have HB := Lib.hid (bel2 ((Below.refl _ _).alloc (Nat.le_refl _) _) hb2); obtain ⟨q0, q1, q2, q3⟩ := box_o hb2; clear hb2)
      obtain ⟨cap, c0, c1, c2, hc1, hc2⟩ := (HC.out w2 HB.out).c0
      obtain ⟨i0, i1, i2, i3⟩ := (HC.out w2 HB.out).ci (i := i) (by rw [HN.out]; exact hin)
      rw [HN.out] at c2 hc1
      rw [hb.out] at i0
      clear i1 i3 c0 c1
      rw [H2.out] at i2
      go_quiet (fail)
      go_wp2
      go_quiet (fail)
      go_wp2
      go_ret
      exact ⟨rfl, bel_drewN (bel_drewN HB.out _) _⟩
    · have hb : Hid ((F.t.s i == 1) = true) := by simp [h1, Hid]
      have H2 := Lib.hid h2
      clear h1 h2
      go_enter Try.func39, Try.ntmps39
      go_wp2_with (go_at_call 30; refine (HV.out _ ((Below.refl _ _).alloc (Nat.le_refl _) _)).mono ?_; rintro e w2 ⟨rfl, hb2⟩; have HB := Lib.hid (bel2 ((Below.refl _ _).alloc (Nat.le_refl _) _) hb2); obtain ⟨q0, q1, q2, q3⟩ := box_o hb2; clear hb2)
      obtain ⟨cap, c0, c1, c2, hc1, hc2⟩ := (HC.out w2 HB.out).c0
      obtain ⟨i0, i1, i2, i3⟩ := (HC.out w2 HB.out).ci (i := i) (by rw [HN.out]; exact hin)
      rw [HN.out] at c2 hc1
      rw [hb.out] at i0
      clear i1 i3 c0 c1
      have hne : (((F.t.g i : Nat) : Int) != z) = true := by have := H2.out; simp; omega
      generalize F.t.g i = fg at *
      go_quiet (fail)
      go_wp2
      go_quiet (fail)
      go_wp2
      go_ret
      exact ⟨rfl, bel_drewN (bel_drewN HB.out _) _⟩
    · have hb : Hid ((F.t.s i == 1) = false) := by simp [h1, Hid]
      clear h1
      go_enter Try.func39, Try.ntmps39
      go_wp2_with (go_at_call 30; refine (HV.out _ ((Below.refl _ _).alloc (Nat.le_refl _) _)).mono ?_; rintro e w2 ⟨rfl, hb2⟩; have HB := Lib.hid (bel2 ((Below.refl _ _).alloc (Nat.le_refl _) _) hb2); obtain ⟨q0, q1, q2, q3⟩ := box_o hb2; clear hb2)
      obtain ⟨cap, c0, c1, c2, hc1, hc2⟩ := (HC.out w2 HB.out).c0
      obtain ⟨i0, i1, i2, i3⟩ := (HC.out w2 HB.out).ci (i := i) (by rw [HN.out]; exact hin)
      rw [HN.out] at c2 hc1
      rw [hb.out] at i0
      clear i1 i3 c0 c1
      generalize F.t.g i = fg at *
      go_quiet (fail)
      go_wp2
      go_quiet (fail)
      go_wp2
      go_ret
      exact ⟨rfl, bel_drewN (bel_drewN HB.out _) _⟩
  · obtain rfl : E = 3 := by
      rw [← hE]; unfold Tb.chk; rw [if_pos (.inr (by rw [hn]; omega))]
    clear h hE
    have HN := Lib.hid hn
    clear hn
    go_enter Try.func39, Try.ntmps39
    go_wp2_with (go_at_call 30; refine (HV.out _ ((Below.refl _ _).alloc (Nat.le_refl _) _)).mono ?_; rintro e w2 ⟨rfl, hb2⟩; have HB := Lib.hid (bel2 ((Below.refl _ _).alloc (Nat.le_refl _) _) hb2); obtain ⟨q0, q1, q2, q3⟩ := box_o hb2; clear hb2)
    obtain ⟨cap, c0, c1, c2, hc1, hc2⟩ := (HC.out w2 HB.out).c0
    rw [HN.out] at c2 hc1
    clear c0 c1
    go_quiet (fail)
    go_wp2
    go_ret
    exact ⟨rfl, bel_drewN HB.out _⟩
theorem dfind_ok (c d : Nat) (F : Po) (x y z : Int) (w : World) (h : DW w c d F) : Calls Try.prog 39 #[.pointer (some ⟨c, 0, none⟩), .agg #[.int .i64 x, .int .i64 y, .int .u32 z]] w fun e w' => e = .returned (.int .i64 (F.chk x y z)) ∧ Below w.heap.size w w' := by
  unfold Po.chk
  by_cases hx : x = 2
  · subst hx
    rw [if_pos rfl]
    by_cases hy : y < 0
    · have e : F.t.chk y z = 3 := by unfold Tb.chk; rw [if_pos (.inl hy)]
      rw [e]
      exact dfind_neg c d F y z hy w h
    · obtain ⟨i, rfl⟩ : ∃ i : Nat, y = (i : Int) := ⟨y.toNat, by omega⟩
      exact dfind_at c d i F z _ rfl w h
  · rw [if_neg hx]
    exact dfind_kind c d F x y z hx w h
end Go.Proofs.Ytjhgckaaaonbiaa
