/- The layer F, joined. -/
import Derived.Test.YtpinmiplefidpaaGreatDoorMF
import Derived.StillTailTactics
import Derived.Deep.QuietTactic
import Derived.BigQuiet
import Derived.Deep.RegionHeld3
import Derived.Laws.ResultCell
namespace Go.Proofs.YtpinmiplefidpaaGreatDoor.FD
open Go.RowKit

/-- The four cells of an id. -/
def dcl (s g x : Nat) : List Value := [.bool (s == 1), .bool (s == 2), .int .u32 g, .int .i64 x]
def Fb.dcls (F : Fb) (k : Nat) : List Value := (List.range k).flatMap fun i => dcl (F.t.s i) (F.t.g i) (F.num i)
theorem dcls_len (F : Fb) : ∀ k, (F.dcls k).length = k * 4
  | 0 => rfl
  | k + 1 => by
    have := dcls_len F k
    unfold Fb.dcls at *
    rw [List.range_succ, List.flatMap_append, List.length_append, this]
    simp [dcl]; omega
theorem dcls_snoc (F : Fb) (k : Nat) : F.dcls (k + 1) = F.dcls k ++ dcl (F.t.s k) (F.t.g k) (F.num k) := by
  unfold Fb.dcls
  rw [List.range_succ, List.flatMap_append]; simp
theorem dcls_at (F : Fb) : ∀ (k i : Nat), i < k → ∀ q, q < 4 → (F.dcls k)[i * 4 + q]? = (dcl (F.t.s i) (F.t.g i) (F.num i))[q]?
  | 0, i, h, _, _ => by omega
  | k + 1, i, h, q, hq => by
    rw [dcls_snoc]
    by_cases e : i = k
    · subst e
      rw [List.getElem?_append_right (by rw [dcls_len]; omega), dcls_len, show i * 4 + q - i * 4 = q by omega]
    · rw [List.getElem?_append_left (by rw [dcls_len]; omega)]; exact dcls_at F k i (by omega) q hq
/-- The document's table: its struct's block c, its ids' block d. -/
structure DW (w : World) (c d : Nat) (F : Fb) : Prop where
  ok : F.Ok
  at_ : ∃ (cap : Nat) (cur : Array Value), Bk w c 169 #[.slice (some ⟨d, 0, none⟩) F.t.n cap] ∧ Bk w d 171 cur ∧ cur.size = cap * 4 ∧ F.t.n ≤ cap ∧ cap ≤ maxLen ∧ ∀ i, i < F.t.n → ∀ q, q < 4 → cur[i * 4 + q]? = (dcl (F.t.s i) (F.t.g i) (F.num i))[q]?
def DFoot (c d g : Nat) : Prop := g = c ∨ g = d
section
variable {w w' : World} {c d : Nat} {F : Fb}
theorem DW.ct (h : DW w c d F) : c < w.heap.size := by obtain ⟨_, _, h1, _⟩ := h.at_; exact h1.lt
theorem DW.dt (h : DW w c d F) : d < w.heap.size := by obtain ⟨_, _, _, h1, _⟩ := h.at_; exact h1.lt
theorem DW.ne (h : DW w c d F) : c ≠ d := by
  obtain ⟨_, _, h1, h2, _⟩ := h.at_
  rintro rfl
  exact absurd (h1.uniq h2).1 (by decide)
theorem DW.same (h : DW w c d F) (e1 : w'.heap[c]? = w.heap[c]?) (e2 : w'.heap[d]? = w.heap[d]?) : DW w' c d F :=
  ⟨h.ok, by obtain ⟨cap, cur, h1, h2, hr⟩ := h.at_; exact ⟨cap, cur, h1.same e1, h2.same e2, hr⟩⟩
theorem DW.kept {S : Nat → Prop} (h : DW w c d F) (k : Kept S w w') (hc : ¬ S c) (hd : ¬ S d) : DW w' c d F := h.same (k.block c h.ct hc) (k.block d h.dt hd)
theorem DW.below (h : DW w c d F) (k : Below w.heap.size w w') : DW w' c d F := h.same (k.block c h.ct) (k.block d h.dt)
theorem DW.c0 (h : DW w c d F) : ∃ cap, w.cell? ⟨c, 0, none⟩ = some (.slice (some ⟨d, 0, none⟩) F.t.n cap) ∧ F.t.n ≤ cap ∧ cap ≤ 9223372036854775807 := by
  obtain ⟨cap, _, h1, _, _, h2, h3, _⟩ := h.at_; exact ⟨cap, h1.cell 0, h2, by unfold maxLen at h3; omega⟩
theorem DW.ci (h : DW w c d F) {i : Nat} (hi : i < F.t.n) : w.cell? ⟨d, i * 4, none⟩ = some (.bool (F.t.s i == 1)) ∧ w.cell? ⟨d, i * 4 + 1, none⟩ = some (.bool (F.t.s i == 2)) ∧ w.cell? ⟨d, i * 4 + 2, none⟩ = some (.int .u32 (F.t.g i)) ∧ w.cell? ⟨d, i * 4 + 3, none⟩ = some (.int .i64 (F.num i)) := by
  obtain ⟨_, cur, _, h1, _, _, _, h2⟩ := h.at_
  refine ⟨?_, ?_, ?_, ?_⟩ <;> rw [h1.cell]
  · exact h2 i hi 0 (by omega)
  · exact h2 i hi 1 (by omega)
  · exact h2 i hi 2 (by omega)
  · exact h2 i hi 3 (by omega)
theorem DW.fz (h : DW w c d F) (i : Nat) : w.frozen? ⟨d, i, none⟩ = false := by obtain ⟨_, cur, _, h1, _⟩ := h.at_; exact h1.frozen i
/-- One id's cells stored anew. -/
theorem DW.put {F' : Fb} (h : DW w c d F) {i : Nat} (hi : i < F.t.n) (ho : F'.Ok) (hn : F'.t.n = F.t.n) (hj : ∀ j, j ≠ i → F'.t.s j = F.t.s j ∧ F'.t.g j = F.t.g j ∧ F'.num j = F.num j) (hk : Kept (· = d) w w')
    (hnew : ∃ cur, Bk w d 171 cur ∧ ∃ cur', Bk w' d 171 cur' ∧ cur'.size = cur.size ∧ (∀ k, (k < i * 4 ∨ i * 4 + 4 ≤ k) → cur'[k]? = cur[k]?) ∧ ∀ q, q < 4 → cur'[i * 4 + q]? = (dcl (F'.t.s i) (F'.t.g i) (F'.num i))[q]?) : DW w' c d F' := by
  have hne := h.ne
  obtain ⟨cap, cur, h1, h2, h3, h4, h5, h6⟩ := h.at_
  obtain ⟨cur0, k1, cur', k2, k3, k4, k5⟩ := hnew
  obtain ⟨_, rfl⟩ := h2.uniq k1
  refine ⟨ho, cap, cur', by rw [hn]; exact h1.kept hk hne, k2, k3.trans h3, by rw [hn]; exact h4, h5, fun j hj' q hq => ?_⟩
  by_cases e : j = i
  · subst e; exact k5 q hq
  · obtain ⟨e1, e2, e3⟩ := hj j e
    rw [k4 _ (by omega), h6 j (by rw [← hn]; exact hj') q hq, e1, e2, e3]
end
end Go.Proofs.YtpinmiplefidpaaGreatDoor.FD

namespace Go.Proofs.YtpinmiplefidpaaGreatDoor.FD
open Go.RowKit

set_option maxHeartbeats 2000000 in
set_option maxRecDepth 100000 in
theorem dcheck_no (c d : Nat) (F : Fb) (x y z : Int) (hr : RgO x y z) (hf : ¬ IsFile x y z) (w : World) (_h : DW w c d F) : Calls Tryz.prog 114 #[.pointer (some ⟨c, 0, none⟩), .agg #[.int .i64 x, .int .i64 y, .int .u32 z]] w fun e w' => e = .returned (.int .i64 2) ∧ Below w.heap.size w w' := by
  clear _h
  rcases not_file hf hr with hb | ⟨hk, k', i', g', rfl, rfl, rfl, ho⟩
  · have HR := Lib.hid hr
    have HH := Lib.hid hb
    clear hr hf hb
    go_enter Tryz.func114, Tryz.ntmps114
    go_wp2_with (go_at_call 71; refine (rochk_bad _ _ _ HR.out HH.out _).mono ?_; rintro e w2 ⟨rfl, hb2⟩; have HB := Lib.hid hb2; clear hb2)
    go_ret
    exact ⟨rfl, bel2 ((Below.refl _ _).alloc (Nat.le_refl _) _) HB.out⟩
  · have HH := Lib.hid ho
    have hk2 : ((k' : Int) != 1) = true := by simp; omega
    clear hr hf ho
    go_enter Tryz.func114, Tryz.ntmps114
    go_wp2_with (go_at_call 71; refine (rochk_ok _ _ _ HH.out _).mono ?_; rintro e w2 ⟨rfl, hb2⟩; have HB := Lib.hid hb2; obtain ⟨q0, q1, q2, q3⟩ := box_o hb2; clear hb2)
    go_ret
    exact ⟨rfl, bel2 ((Below.refl _ _).alloc (Nat.le_refl _) _) HB.out⟩
set_option maxHeartbeats 4000000 in
set_option maxRecDepth 100000 in
theorem dcheck_file (c d i : Nat) (F : Fb) (g : Nat) (ho : Okn 64 1 i g) (E : Int) (hE : F.t.chk i g = E) (w : World) (h : DW w c d F) : Calls Tryz.prog 114 #[.pointer (some ⟨c, 0, none⟩), .agg #[.int .i64 1, .int .i64 i, .int .u32 g]] w fun e w' => e = .returned (.int .i64 E) ∧ Below w.heap.size w w' := by
  have HH := Lib.hid ho
  have HC : Hid (∀ W, Below w.heap.size w W → DW W c d F) := fun W hW => h.below hW
  have hnb : F.t.n ≤ 256 := h.ok.t.hi
  obtain ⟨n, hn⟩ : ∃ n, F.t.n = n := ⟨_, rfl⟩
  rw [hn] at hnb
  have hi64 : (i : Int) ≤ 64 := by have := ho.2.2.1; omega
  have hg0 : (g : Int) ≤ 4294967295 := by have := ho.2.2.2.2; omega
  by_cases hin : i < n
  · have hs : (F.t.s i = 1 ∧ (F.t.g i : Int) = g ∧ E = 0) ∨ (F.t.s i = 1 ∧ (F.t.g i : Int) ≠ g ∧ E = 7) ∨ (F.t.s i ≠ 1 ∧ E = 7) := by
      rw [← hE]
      unfold Tb.chk
      rw [if_neg (by rw [hn]; omega)]
      simp only [Int.toNat_natCast]
      by_cases h1 : F.t.s i = 1
      · by_cases h2 : (F.t.g i : Int) = g
        · exact .inl ⟨h1, h2, if_pos ⟨h1, h2⟩⟩
        · exact .inr (.inl ⟨h1, h2, if_neg fun e => h2 e.2⟩)
      · exact .inr (.inr ⟨h1, if_neg fun e => h1 e.1⟩)
    clear h ho hE
    have HN := Lib.hid hn
    clear hn
    rcases hs with ⟨h1, h2, rfl⟩ | ⟨h1, h2, rfl⟩ | ⟨h1, rfl⟩
    · have hb : Hid ((F.t.s i == 1) = true) := by simp [h1, Hid]
      have H2 := Lib.hid h2
      clear h1 h2
      go_enter Tryz.func114, Tryz.ntmps114
      go_wp2_with (go_at_call 71; refine (rochk_ok _ _ _ HH.out _).mono ?_; rintro e w2 ⟨rfl, hb2⟩; have HB := Lib.hid (bel2 ((Below.refl _ _).alloc (Nat.le_refl _) _) hb2); obtain ⟨q0, q1, q2, q3⟩ := box_o hb2; clear hb2)
      obtain ⟨cap, c0, hc1, hc2⟩ := (HC.out w2 HB.out).c0
      obtain ⟨i0, i1, i2, i3⟩ := (HC.out w2 HB.out).ci (i := i) (by rw [HN.out]; exact hin)
      rw [HN.out] at c0 hc1
      rw [hb.out] at i0
      clear i1 i3
      rw [H2.out] at i2
      go_quiet (fail)
      go_wp2
      go_quiet (fail)
      go_wp2
      go_ret
      exact ⟨rfl, bel_drewN (bel_drewN HB.out _) _⟩
    · have hb : Hid ((F.t.s i == 1) = true) := by simp [h1, Hid]
      have H2 := Lib.hid h2
      clear h1 h2
      go_enter Tryz.func114, Tryz.ntmps114
      go_wp2_with (go_at_call 71; refine (rochk_ok _ _ _ HH.out _).mono ?_; rintro e w2 ⟨rfl, hb2⟩; have HB := Lib.hid (bel2 ((Below.refl _ _).alloc (Nat.le_refl _) _) hb2); obtain ⟨q0, q1, q2, q3⟩ := box_o hb2; clear hb2)
      obtain ⟨cap, c0, hc1, hc2⟩ := (HC.out w2 HB.out).c0
      obtain ⟨i0, i1, i2, i3⟩ := (HC.out w2 HB.out).ci (i := i) (by rw [HN.out]; exact hin)
      rw [HN.out] at c0 hc1
      rw [hb.out] at i0
      clear i1 i3
      have hne : (((F.t.g i : Nat) : Int) != g) = true := by have := H2.out; simp; omega
      generalize F.t.g i = fg at *
      go_quiet (fail)
      go_wp2
      go_quiet (fail)
      go_wp2
      go_ret
      exact ⟨rfl, bel_drewN (bel_drewN HB.out _) _⟩
    · have hb : Hid ((F.t.s i == 1) = false) := by simp [h1, Hid]
      clear h1
      go_enter Tryz.func114, Tryz.ntmps114
      go_wp2_with (go_at_call 71; refine (rochk_ok _ _ _ HH.out _).mono ?_; rintro e w2 ⟨rfl, hb2⟩; have HB := Lib.hid (bel2 ((Below.refl _ _).alloc (Nat.le_refl _) _) hb2); obtain ⟨q0, q1, q2, q3⟩ := box_o hb2; clear hb2)
      obtain ⟨cap, c0, hc1, hc2⟩ := (HC.out w2 HB.out).c0
      obtain ⟨i0, i1, i2, i3⟩ := (HC.out w2 HB.out).ci (i := i) (by rw [HN.out]; exact hin)
      rw [HN.out] at c0 hc1
      rw [hb.out] at i0
      clear i1 i3
      generalize F.t.g i = fg at *
      go_quiet (fail)
      go_wp2
      go_quiet (fail)
      go_wp2
      go_ret
      exact ⟨rfl, bel_drewN (bel_drewN HB.out _) _⟩
  · obtain rfl : E = 3 := by
      rw [← hE]; unfold Tb.chk; rw [if_pos (.inr (by rw [hn]; omega))]
    clear h ho hE
    have HN := Lib.hid hn
    clear hn
    go_enter Tryz.func114, Tryz.ntmps114
    go_wp2_with (go_at_call 71; refine (rochk_ok _ _ _ HH.out _).mono ?_; rintro e w2 ⟨rfl, hb2⟩; have HB := Lib.hid (bel2 ((Below.refl _ _).alloc (Nat.le_refl _) _) hb2); obtain ⟨q0, q1, q2, q3⟩ := box_o hb2; clear hb2)
    obtain ⟨cap, c0, hc1, hc2⟩ := (HC.out w2 HB.out).c0
    rw [HN.out] at c0 hc1
    go_quiet (fail)
    go_wp2
    go_ret
    exact ⟨rfl, bel_drewN HB.out _⟩
end Go.Proofs.YtpinmiplefidpaaGreatDoor.FD

namespace Go.Proofs.YtpinmiplefidpaaGreatDoor.FD
open Go.RowKit

/-- What begun answers: a new table. -/
def BgP (n g : Nat) (w : World) (e : Ending) (w' : World) : Prop := ∃ b k m, e = .returned (.tuple #[.pointer (some ⟨b, 0, none⟩), .int .i64 n, .bool true]) ∧ Hid (FSt w w' b k m (ffresh n g))

/-! ### the lowest free id -/
theorem free_head {T : Tb} {i : Nat} (h : ∀ j, j < i → T.s j ≠ 0) (h0 : T.s i = 0) (hi : i < T.n) : ∃ r, T.free = i :: r := by
  have key : ∀ d j, j + d = i → selFrom T.s 0 j T.n = selFrom T.s 0 i T.n := by
    intro d
    induction d with
    | zero => intro j e; rw [Nat.add_zero] at e; rw [e]
    | succ d ih => intro j e; rw [selFrom_step T.s 0 (show j < T.n by omega), if_neg (h j (by omega)), List.nil_append]; exact ih (j + 1) (by omega)
  refine ⟨selFrom T.s 0 (i + 1) T.n, ?_⟩
  unfold Tb.free
  rw [← selFrom_zero, key i 0 (by omega), selFrom_step T.s 0 hi, if_pos h0]; rfl
theorem free_none {T : Tb} (h : ∀ j, j < T.n → T.s j ≠ 0) : T.free = [] := by
  unfold Tb.free
  rw [List.eq_nil_iff_forall_not_mem]
  intro i hi
  exact h i (mem_sel.1 hi).1 (mem_sel.1 hi).2
theorem held_none {T : Tb} (h : ∀ j, j < T.n → T.s j ≠ 1) : T.held = [] := by
  unfold Tb.held
  rw [List.eq_nil_iff_forall_not_mem]
  intro i hi
  exact h i (mem_sel.1 hi).1 (mem_sel.1 hi).2
/-- What Open answers where i is the lowest free id. -/
theorem Fb.opn_at {F : Fb} {i : Nat} {r : List Nat} (h : F.t.free = i :: r) (x : Nat) : F.oK = 1 ∧ F.oI = i ∧ F.oG = F.t.g i ∧ F.oE = 0 ∧ F.opn x = F.opened i x := by
  unfold Fb.oK Fb.oI Fb.oG Fb.oE Fb.opn
  rw [h]
  exact ⟨rfl, rfl, rfl, rfl, rfl⟩
theorem Fb.opn_full {F : Fb} (h : F.t.free = []) (x : Nat) : F.oK = 0 ∧ F.oI = 0 ∧ F.oG = 0 ∧ F.oE = 4 ∧ F.opn x = F := by
  unfold Fb.oK Fb.oI Fb.oG Fb.oE Fb.opn
  rw [h]
  exact ⟨rfl, rfl, rfl, rfl, rfl⟩
/-- Opening an id, and what is said of it then. -/
theorem Fb.chk_opened {F : Fb} (hF : F.Ok) {i : Nat} (hi : i < F.t.n) (x : Nat) : (F.opened i x).chk 1 i (F.t.g i) = 0 := by
  have h1 : (F.opened i x).t.s i = 1 := by simp [Fb.opened, Tb.took, put_same]
  have hh := hF.hi
  have hg := hF.t.g1 i hi
  unfold Fb.chk
  rw [if_pos ⟨rfl, by omega, by omega, by omega⟩]
  exact Tb.chk_held (T := F.t.took i) hi h1
theorem Fb.closed_of {F : Fb} {i : Nat} {g : Int} (h : F.chk 1 i g = 0) : F.closed 1 i g = F.close i := by
  unfold Fb.closed; rw [if_pos h]; rfl
end Go.Proofs.YtpinmiplefidpaaGreatDoor.FD

namespace Go.Proofs.YtpinmiplefidpaaGreatDoor.FD
open Go.RowKit

theorem dcheck_ok (c d : Nat) (F : Fb) (x y z : Int) (hr : RgO x y z) (w : World) (h : DW w c d F) : Calls Tryz.prog 114 #[.pointer (some ⟨c, 0, none⟩), .agg #[.int .i64 x, .int .i64 y, .int .u32 z]] w fun e w' => e = .returned (.int .i64 (F.chk x y z)) ∧ Below w.heap.size w w' := by
  rcases F.chk_cases x y z with ⟨h1, h2⟩ | ⟨h1, h2⟩
  · rw [h2]; exact dcheck_no c d F x y z hr h1 w h
  · rw [h2]
    obtain ⟨rfl, i, g, rfl, rfl, ho⟩ := h1.okn hr
    exact dcheck_file c d i F g ho _ rfl w h
set_option maxHeartbeats 1000000 in
set_option maxRecDepth 100000 in
theorem dclose_no (c d : Nat) (F : Fb) (x y z : Int) (hr : RgO x y z) (h0 : F.chk x y z ≠ 0) (w : World) (h : DW w c d F) : Calls Tryz.prog 74 #[.pointer (some ⟨c, 0, none⟩), .agg #[.int .i64 x, .int .i64 y, .int .u32 z]] w fun e w' => e = .returned (.int .i64 (F.chk x y z)) ∧ Below w.heap.size w w' := by
  have CK : Hid (∀ W, Below w.heap.size w W → Calls Tryz.prog 114 #[.pointer (some ⟨c, 0, none⟩), .agg #[.int .i64 x, .int .i64 y, .int .u32 z]] W fun e w' => e = .returned (.int .i64 (F.chk x y z)) ∧ Below W.heap.size W w') := fun W hW => dcheck_ok c d F x y z hr W (h.below hW)
  have hE0 : (F.chk x y z == 0) = false := beq_eq_false_iff_ne.2 h0
  generalize F.chk x y z = E at *
  clear h hr h0
  go_enter Tryz.func74, Tryz.ntmps74
  go_wp2_with (go_at_call 114; refine (CK.out _ ((Below.refl _ _).alloc (Nat.le_refl _) _)).mono ?_; rintro e w2 ⟨rfl, hb2⟩; have HB := Lib.hid (bel2 ((Below.refl _ _).alloc (Nat.le_refl _) _) hb2); clear hb2)
  go_ret
  exact ⟨rfl, HB.out⟩
set_option maxHeartbeats 4000000 in
set_option maxRecDepth 100000 in
theorem dclose_yes (c d i : Nat) (F : Fb) (w : World) (h : DW w c d F) (hi : i < F.t.n) (hs : F.t.s i = 1) : Calls Tryz.prog 74 #[.pointer (some ⟨c, 0, none⟩), .agg #[.int .i64 1, .int .i64 i, .int .u32 (F.t.g i)]] w fun e w' => e = .returned (.int .i64 0) ∧ DW w' c d (F.close i) ∧ Kept (· = d) w w' := by
  have a1 := h.ok.hi
  have a3 := h.ok.t.gm i
  have hr : RgO 1 i (F.t.g i) := ⟨by omega, by omega, by omega, by omega, by omega, by omega⟩
  have hck := h.ok.chk_held hi hs
  have CK : Hid (∀ W, Below w.heap.size w W → Calls Tryz.prog 114 #[.pointer (some ⟨c, 0, none⟩), .agg #[.int .i64 1, .int .i64 i, .int .u32 (F.t.g i)]] W fun e w' => e = .returned (.int .i64 0) ∧ Below W.heap.size W w') := fun W hW => by
    have := dcheck_ok c d F 1 i (F.t.g i) hr W (h.below hW)
    rw [hck] at this; exact this
  have HC : Hid (∀ W, Below w.heap.size w W → DW W c d F) := fun W hW => h.below hW
  have HI := Lib.hid hi
  obtain ⟨n, hn⟩ : ∃ n, F.t.n = n := ⟨_, rfl⟩
  have HN := Lib.hid hn
  have hin : i < n := by omega
  have hnb : n ≤ 64 := by omega
  have FIN : Hid (∀ W (r : Bool) (gn : Nat), DW W c d F → ((F.t.g i = 4294967295 ∧ r = true ∧ gn = 4294967295) ∨ (F.t.g i ≠ 4294967295 ∧ r = false ∧ gn = F.t.g i + 1)) → DW ((((W.setCell ⟨d, i * 4, none⟩ (.bool false)).setCell ⟨d, i * 4 + 1, none⟩ (.bool r)).setCell ⟨d, i * 4 + 2, none⟩ (.int .u32 gn)).setCell ⟨d, i * 4 + 3, none⟩ (.int .i64 0)) c d (F.close i) ∧ Kept (· = d) W ((((W.setCell ⟨d, i * 4, none⟩ (.bool false)).setCell ⟨d, i * 4 + 1, none⟩ (.bool r)).setCell ⟨d, i * 4 + 2, none⟩ (.int .u32 gn)).setCell ⟨d, i * 4 + 3, none⟩ (.int .i64 0))) := fun W r gn hW hrg => by
    have hk : Kept (· = d) W ((((W.setCell ⟨d, i * 4, none⟩ (.bool false)).setCell ⟨d, i * 4 + 1, none⟩ (.bool r)).setCell ⟨d, i * 4 + 2, none⟩ (.int .u32 gn)).setCell ⟨d, i * 4 + 3, none⟩ (.int .i64 0)) := (((((Kept.refl _ W).put1 _ _).put1 _ _).put1 _ _).put1 _ _)
    refine ⟨hW.put HI.out (hW.ok.close i) (F.close_n i) (fun j hj => ⟨gave_s_other hj, gave_g_other hj, put_other hj⟩) hk ?_, hk⟩
    obtain ⟨cap, cur, _, h2, h3, h4, _, _⟩ := hW.at_
    refine ⟨cur, h2, _, ((((h2.put (i * 4) _).put (i * 4 + 1) _).put (i * 4 + 2) _).put (i * 4 + 3) _), by simp, fun k hk => ?_, fun q hq => ?_⟩
    · rw [Array.getElem?_setIfInBounds, if_neg (by omega), Array.getElem?_setIfInBounds, if_neg (by omega), Array.getElem?_setIfInBounds, if_neg (by omega), Array.getElem?_setIfInBounds, if_neg (by omega)]
    · have hsz : i * 4 + 4 ≤ cur.size := by have := HI.out; rw [h3]; omega
      have e : dcl ((F.close i).t.s i) ((F.close i).t.g i) ((F.close i).num i) = [.bool false, .bool r, .int .u32 gn, .int .i64 0] := by
        have en : (F.close i).num i = 0 := by simp [Fb.close, put_same]
        rw [en]
        rcases hrg with ⟨g1, rfl, rfl⟩ | ⟨g1, rfl, rfl⟩
        · have e1 : F.t.gave i = ⟨F.t.n, put F.t.s i 2, F.t.g⟩ := by unfold Tb.gave; rw [if_pos g1]
          simp only [Fb.close, e1, put_same, g1]; rfl
        · have e1 : F.t.gave i = ⟨F.t.n, put F.t.s i 0, put F.t.g i (F.t.g i + 1)⟩ := by unfold Tb.gave; rw [if_neg g1]
          simp only [Fb.close, e1, put_same]; rfl
      rw [e]
      have h0 : i * 4 < cur.size := by omega
      have h1 : i * 4 + 1 < cur.size := by omega
      have h2 : i * 4 + 2 < cur.size := by omega
      have h3 : i * 4 + 3 < cur.size := by omega
      match q, hq with
      | 0, _ => simp [h0]
      | 1, _ => simp [h1]
      | 2, _ => simp [h2]
      | 3, _ => simp [h3]
  clear hr hck hi hs hn a1
  have hdt := h.dt
  have hct := h.ct
  clear h
  obtain ⟨fg, hfg⟩ : ∃ fg, F.t.g i = fg := ⟨_, rfl⟩
  rw [hfg] at CK FIN a3 ⊢
  by_cases hmax : fg = 4294967295
  · have hm : ((fg : Int) == 4294967295) = true := by simp; omega
    have HM := Lib.hid hmax
    clear hmax
    go_enter Tryz.func74, Tryz.ntmps74
    go_wp2_with (go_at_call 114; refine (CK.out _ ((Below.refl _ _).alloc (Nat.le_refl _) _)).mono ?_; rintro e w2 ⟨rfl, hb2⟩; have HB := Lib.hid (bel2 ((Below.refl _ _).alloc (Nat.le_refl _) _) hb2); obtain ⟨q0, q1, q2, q3⟩ := box_o hb2; clear hb2)
    obtain ⟨cap, c0, hc1, hc2⟩ := (HC.out w2 HB.out).c0
    obtain ⟨i0, i1, i2, i3⟩ := (HC.out w2 HB.out).ci HI.out
    rw [HN.out] at c0 hc1
    have hdl : d < w2.heap.size := (HC.out w2 HB.out).dt
    have hcl : c < w2.heap.size := (HC.out w2 HB.out).ct
    have f0 := (HC.out w2 HB.out).fz (i * 4)
    have f1 := (HC.out w2 HB.out).fz (i * 4 + 1)
    have f2 := (HC.out w2 HB.out).fz (i * 4 + 2)
    have f3 := (HC.out w2 HB.out).fz (i * 4 + 3)
    have hB := bel_alloc HB.out (.cells #[.bool false, .bool true, .int .u32 fg, .int .i64 0] 171)
    have hb1 : Below w2.heap.size w2 (w2.alloc (.cells #[.bool false, .bool true, .int .u32 fg, .int .i64 0] 171)) := (Below.refl _ _).alloc (Nat.le_refl _) _
    have hn := Bk.new w2 171 #[.bool false, .bool true, .int .u32 fg, .int .i64 0]
    have HB3 := Lib.hid hB
    have FI := Lib.hid (FIN.out _ true fg (((HC.out w2 HB.out).below hb1).same (w' := (w2.alloc (.cells #[.bool false, .bool true, .int .u32 fg, .int .i64 0] 171)).drew) rfl rfl) (.inl ⟨HM.out, rfl, HM.out⟩))
    have n0 : (w2.alloc (.cells #[.bool false, .bool true, .int .u32 fg, .int .i64 0] 171)).cell? ⟨w2.heap.size, 0, none⟩ = some (.bool false) := hn.cell 0
    have n1 : (w2.alloc (.cells #[.bool false, .bool true, .int .u32 fg, .int .i64 0] 171)).cell? ⟨w2.heap.size, 1, none⟩ = some (.bool true) := hn.cell 1
    have n2 : (w2.alloc (.cells #[.bool false, .bool true, .int .u32 fg, .int .i64 0] 171)).cell? ⟨w2.heap.size, 2, none⟩ = some (.int .u32 fg) := hn.cell 2
    have n3 : (w2.alloc (.cells #[.bool false, .bool true, .int .u32 fg, .int .i64 0] 171)).cell? ⟨w2.heap.size, 3, none⟩ = some (.int .i64 0) := hn.cell 3
    have e0 := cell_keeps hb1 i0
    have e1 := cell_keeps hb1 i1
    have e2 := cell_keeps hb1 i2
    have e3 := cell_keeps hb1 i3
    have ec := cell_keeps hb1 c0
    have eq := cell_keeps hb1 q1
    rw [← (bcell hb1).2 d _ hdl] at f0 f1 f2 f3
    generalize w2.alloc (.cells #[.bool false, .bool true, .int .u32 fg, .int .i64 0] 171) = w3 at *
    clear i0 i1 i2 i3 c0 hb1 hB hn q0 q1 q2
    go_region
    go_wp2
    go_ret
    exact ⟨rfl, FI.out.1, (Kept.of_below (bel_drew HB3.out)).trans FI.out.2⟩
  · have hm : ((fg : Int) == 4294967295) = false := by simp; omega
    have HM := Lib.hid hmax
    have hfg1 : (fg : Int) + 1 ≤ 4294967295 := by omega
    have hfg0 : (0 : Int) ≤ (fg : Int) + 1 := by omega
    clear hmax
    go_enter Tryz.func74, Tryz.ntmps74
    go_wp2_with (go_at_call 114; refine (CK.out _ ((Below.refl _ _).alloc (Nat.le_refl _) _)).mono ?_; rintro e w2 ⟨rfl, hb2⟩; have HB := Lib.hid (bel2 ((Below.refl _ _).alloc (Nat.le_refl _) _) hb2); obtain ⟨q0, q1, q2, q3⟩ := box_o hb2; clear hb2)
    obtain ⟨cap, c0, hc1, hc2⟩ := (HC.out w2 HB.out).c0
    obtain ⟨i0, i1, i2, i3⟩ := (HC.out w2 HB.out).ci HI.out
    rw [HN.out] at c0 hc1
    have hdl : d < w2.heap.size := (HC.out w2 HB.out).dt
    have hcl : c < w2.heap.size := (HC.out w2 HB.out).ct
    have f0 := (HC.out w2 HB.out).fz (i * 4)
    have f1 := (HC.out w2 HB.out).fz (i * 4 + 1)
    have f2 := (HC.out w2 HB.out).fz (i * 4 + 2)
    have f3 := (HC.out w2 HB.out).fz (i * 4 + 3)
    have hB := bel_alloc HB.out (.cells #[.bool false, .bool false, .int .u32 ((fg : Int) + 1), .int .i64 0] 171)
    have hb1 : Below w2.heap.size w2 (w2.alloc (.cells #[.bool false, .bool false, .int .u32 ((fg : Int) + 1), .int .i64 0] 171)) := (Below.refl _ _).alloc (Nat.le_refl _) _
    have hn := Bk.new w2 171 #[.bool false, .bool false, .int .u32 ((fg : Int) + 1), .int .i64 0]
    have HB3 := Lib.hid hB
    have FI := Lib.hid (FIN.out _ false (fg + 1) (((HC.out w2 HB.out).below hb1).same (w' := (w2.alloc (.cells #[.bool false, .bool false, .int .u32 ((fg : Int) + 1), .int .i64 0] 171)).drew) rfl rfl) (.inr ⟨HM.out, rfl, rfl⟩))
    have n0 : (w2.alloc (.cells #[.bool false, .bool false, .int .u32 ((fg : Int) + 1), .int .i64 0] 171)).cell? ⟨w2.heap.size, 0, none⟩ = some (.bool false) := hn.cell 0
    have n1 : (w2.alloc (.cells #[.bool false, .bool false, .int .u32 ((fg : Int) + 1), .int .i64 0] 171)).cell? ⟨w2.heap.size, 1, none⟩ = some (.bool false) := hn.cell 1
    have n2 : (w2.alloc (.cells #[.bool false, .bool false, .int .u32 ((fg : Int) + 1), .int .i64 0] 171)).cell? ⟨w2.heap.size, 2, none⟩ = some (.int .u32 ((fg : Int) + 1)) := hn.cell 2
    have n3 : (w2.alloc (.cells #[.bool false, .bool false, .int .u32 ((fg : Int) + 1), .int .i64 0] 171)).cell? ⟨w2.heap.size, 3, none⟩ = some (.int .i64 0) := hn.cell 3
    have e0 := cell_keeps hb1 i0
    have e1 := cell_keeps hb1 i1
    have e2 := cell_keeps hb1 i2
    have e3 := cell_keeps hb1 i3
    have ec := cell_keeps hb1 c0
    have eq := cell_keeps hb1 q1
    rw [← (bcell hb1).2 d _ hdl] at f0 f1 f2 f3
    generalize w2.alloc (.cells #[.bool false, .bool false, .int .u32 ((fg : Int) + 1), .int .i64 0] 171) = w3 at *
    clear i0 i1 i2 i3 c0 hb1 hB hn q0 q1 q2
    go_region
    go_wp2
    go_ret
    exact ⟨rfl, FI.out.1, (Kept.of_below (bel_drew HB3.out)).trans FI.out.2⟩
def DCloseP (c d : Nat) (F : Fb) (x y z : Int) (w : World) (e : Ending) (w' : World) : Prop := e = .returned (.int .i64 (F.chk x y z)) ∧ DW w' c d (F.closed x y z) ∧ Kept (· = d) w w'
theorem dclose_ok (c d : Nat) (F : Fb) (x y z : Int) (hr : RgO x y z) (w : World) (h : DW w c d F) : Calls Tryz.prog 74 #[.pointer (some ⟨c, 0, none⟩), .agg #[.int .i64 x, .int .i64 y, .int .u32 z]] w (DCloseP c d F x y z w) := by
  by_cases h0 : F.chk x y z = 0
  · obtain rfl := (Fb.chk_open h0).1
    obtain ⟨i, rfl, hi, hs, rfl, _⟩ := Fb.chk_is h.ok h0
    refine (dclose_yes c d i F w h hi hs).mono ?_
    rintro e w' ⟨rfl, h1, h2⟩
    refine ⟨by rw [h0], ?_, h2⟩
    unfold Fb.closed
    rw [if_pos h0]; exact h1
  · refine (dclose_no c d F x y z hr h0 w h).mono ?_
    rintro e w' ⟨rfl, hb⟩
    refine ⟨rfl, ?_, Kept.of_below hb⟩
    unfold Fb.closed
    rw [if_neg h0]; exact h.below hb
end Go.Proofs.YtpinmiplefidpaaGreatDoor.FD

namespace Go.Proofs.YtpinmiplefidpaaGreatDoor.FD
open Go.RowKit

theorem ob3 {w : World} {A : Nat} {x y z : Value} (h : Bk w A 25 #[x, y, z]) : w.cell? ⟨A, 0, none⟩ = some x ∧ w.cell? ⟨A, 1, none⟩ = some y ∧ w.cell? ⟨A, 2, none⟩ = some z := ⟨h.cell 0, h.cell 1, h.cell 2⟩
set_option maxRecDepth 100000 in
theorem dopen_arg (c : Nat) (x : Int) (hx : I64 x) (hx2 : x < 0 ∨ 65535 < x) (w : World) : Calls Tryz.prog 107 #[.pointer (some ⟨c, 0, none⟩), .int .i64 x] w fun e w' => e = .returned (.tuple #[.agg #[.int .i64 0, .int .i64 0, .int .u32 0], .int .i64 2]) ∧ Below w.heap.size w w' := by
  obtain ⟨x0, x1⟩ := hx
  rcases hx2 with hx2 | hx2
  all_goals
    go_enter Tryz.func107, Tryz.ntmps107
    go_wp2
    refine bodyPost_ret (v := .tuple #[.agg #[.int .i64 0, .int .i64 0, .int .u32 0], .int .i64 2]) (by simp [results, Tryz.results107, go_sem]) rfl ⟨rfl, ?_⟩
    exact (Below.refl _ w).alloc (Nat.le_refl _) _
theorem dopen_ret {B : Nat} {E : Int} {W : World} {x y z : Value} {P : Ending → World → Prop} {a : Act} (hN : Bk W B 25 #[x, y, z]) (h4 : a.tmps[4]? = some (.pointer (some ⟨B, 0, none⟩))) (h5 : a.tmps[5]? = some (.int .i64 E)) (hd : a.defers = [])
    (hP : P (.returned (.tuple #[.agg #[x, y, z], .int .i64 E])) W) : bodyPost Tryz.prog Tryz.f107 P Exit.ret a W := by
  have c0 : W.cell? ⟨B, 0, none⟩ = some x := hN.cell 0
  have c1 : W.cell? ⟨B, 1, none⟩ = some y := hN.cell 1
  have c2 : W.cell? ⟨B, 2, none⟩ = some z := hN.cell 2
  have e4 : a.tmps.getD 4 undef = .pointer (some ⟨B, 0, none⟩) := by rw [Array.getD_eq_getD_getElem?, h4]; rfl
  have e5 : a.tmps.getD 5 undef = .int .i64 E := by rw [Array.getD_eq_getD_getElem?, h5]; rfl
  refine bodyPost_ret (v := .tuple #[.agg #[x, y, z], .int .i64 E]) ?_ hd hP
  rw [results_cell_tmp rfl, e4, e5]
  go_simp
/-- An id is taken in the document's table. -/
theorem DW.open {w : World} {c d i x : Nat} {F : Fb} (h : DW w c d F) (hi : i < F.t.n) (hs : F.t.s i = 0) (hx : x ≤ 65535) :
    DW ((w.setCell ⟨d, i * 4, none⟩ (.bool true)).setCell ⟨d, i * 4 + 3, none⟩ (.int .i64 x)) c d (F.opened i x) ∧ Kept (· = d) w ((w.setCell ⟨d, i * 4, none⟩ (.bool true)).setCell ⟨d, i * 4 + 3, none⟩ (.int .i64 x)) := by
  have hk : Kept (· = d) w ((w.setCell ⟨d, i * 4, none⟩ (.bool true)).setCell ⟨d, i * 4 + 3, none⟩ (.int .i64 x)) := ((Kept.refl _ w).put1 _ _).put1 _ _
  refine ⟨h.put hi (h.ok.opened i hx) rfl (fun j hj => ⟨put_other hj, rfl, put_other hj⟩) hk ?_, hk⟩
  obtain ⟨cap, cur, _, h2, h3, h4, _, h6⟩ := h.at_
  refine ⟨cur, h2, _, ((h2.put (i * 4) _).put (i * 4 + 3) _), by simp, fun k hk => ?_, fun q hq => ?_⟩
  · rw [Array.getElem?_setIfInBounds, if_neg (by omega), Array.getElem?_setIfInBounds, if_neg (by omega)]
  · have hsz : i * 4 + 4 ≤ cur.size := by rw [h3]; omega
    have h0 : i * 4 < cur.size := by omega
    have h3' : i * 4 + 3 < cur.size := by omega
    have e : dcl ((F.opened i x).t.s i) ((F.opened i x).t.g i) ((F.opened i x).num i) = [.bool true, .bool false, .int .u32 (F.t.g i), .int .i64 x] := by
      simp [Fb.opened, Tb.took, put_same, dcl]
    have h61 := h6 i hi 1 (by omega)
    have h62 := h6 i hi 2 (by omega)
    rw [hs] at h61 h62
    rw [e]
    match q, hq with
    | 0, _ => simp [h0]
    | 1, _ => rw [Array.getElem?_setIfInBounds, if_neg (by omega), Array.getElem?_setIfInBounds, if_neg (by omega), h61]; rfl
    | 2, _ => rw [Array.getElem?_setIfInBounds, if_neg (by omega), Array.getElem?_setIfInBounds, if_neg (by omega), h62]; rfl
    | 3, _ => simp [h3']

def DOpenP (c d : Nat) (F : Fb) (x : Nat) (w : World) (e : Ending) (w' : World) : Prop := e = .returned (.tuple #[.agg #[.int .i64 F.oK, .int .i64 F.oI, .int .u32 F.oG], .int .i64 F.oE]) ∧ DW w' c d (F.opn x) ∧ Kept (· = d) w w'
set_option maxHeartbeats 4000000 in
set_option maxRecDepth 100000 in
theorem dopen_ok (c d x : Nat) (F : Fb) (hx : x ≤ 65535) (w : World) (h : DW w c d F) : Calls Tryz.prog 107 #[.pointer (some ⟨c, 0, none⟩), .int .i64 x] w (DOpenP c d F x w) := by
  obtain ⟨n, hn⟩ : ∃ n, F.t.n = n := ⟨_, rfl⟩
  have hnb : n ≤ 64 := by rw [← hn]; exact h.ok.hi
  have hst := h.ok.t.st
  have hx' : ¬ 65535 < (x : Int) := by omega
  have hx'' : ¬ (x : Int) < 0 := by omega
  have hdl := h.dt
  have HN := Lib.hid hn
  have FULL : Hid ((∀ j, j < n → F.t.s j ≠ 0) → ∀ W, DW W c d F → Kept (· = d) w W → DOpenP c d F x w (.returned (.tuple #[.agg #[.int .i64 0, .int .i64 0, .int .u32 0], .int .i64 4])) W) := fun ha W h1 h2 => by
    obtain ⟨o1, o2, o3, o4, o5⟩ := Fb.opn_full (F := F) (free_none (T := F.t) (by rw [hn]; exact ha)) x
    unfold DOpenP
    rw [o1, o2, o3, o4, o5]
    exact ⟨rfl, h1, h2⟩
  have AT : Hid (∀ i, i < n → (∀ j, j < i → F.t.s j ≠ 0) → F.t.s i = 0 → ∀ W, DW W c d (F.opened i x) → Kept (· = d) w W → DOpenP c d F x w (.returned (.tuple #[.agg #[.int .i64 1, .int .i64 i, .int .u32 (F.t.g i)], .int .i64 0])) W) := fun i hi ha hs W h1 h2 => by
    obtain ⟨r, hr⟩ := free_head ha hs (by rw [hn]; exact hi)
    obtain ⟨o1, o2, o3, o4, o5⟩ := Fb.opn_at hr x
    unfold DOpenP
    rw [o1, o2, o3, o4, o5]
    exact ⟨rfl, h1, h2⟩
  have D0 : Hid (DW (w.alloc (.cells #[.int .i64 0, .int .i64 0, .int .u32 0] 25)) c d F) := h.below ((Below.refl _ w).alloc (Nat.le_refl _) _)
  have B0 : Hid (Bk (w.alloc (.cells #[.int .i64 0, .int .i64 0, .int .u32 0] 25)) w.heap.size 25 #[.int .i64 0, .int .i64 0, .int .u32 0]) := Bk.new w _ _
  have K0 : Hid (Below w.heap.size w (w.alloc (.cells #[.int .i64 0, .int .i64 0, .int .u32 0] 25))) := (Below.refl _ w).alloc (Nat.le_refl _) _
  clear h hn
  go_enter Tryz.func107, Tryz.ntmps107
  go_wp2
  generalize w.alloc (.cells #[.int .i64 0, .int .i64 0, .int .u32 0] 25) = w1 at *
  go_loopw [6] (fun u wr => ∃ i : Nat, i ≤ n ∧ u = .int .i64 i ∧ Hid (∀ j, j < i → F.t.s j ≠ 0) ∧ Hid (DW wr c d F) ∧ Hid (Bk wr w.heap.size 25 #[.int .i64 0, .int .i64 0, .int .u32 0]) ∧ Hid (Below w.heap.size w wr)) (fun u _ => n - (intOf u).toNat)
  case atStart => exact ⟨0, Nat.zero_le _, rfl, (fun j hj => absurd hj (Nat.not_lt_zero _) : ∀ j, j < 0 → F.t.s j ≠ 0), D0.out, B0.out, K0.out⟩
  case round =>
    clear D0 B0 K0
    obtain ⟨i, hi, rfl, HA, HD, HB, HK⟩ := hrel
    obtain ⟨cap, c0, hc1, hc2⟩ := HD.out.c0
    rw [HN.out] at c0 hc1
    by_cases hlt : i < n
    · obtain ⟨i0, i1, i2, i3⟩ := HD.out.ci (i := i) (by rw [HN.out]; exact hlt)
      have hsi := hst i
      have hs3 : F.t.s i = 0 ∨ F.t.s i = 1 ∨ F.t.s i = 2 := by omega
      clear hsi
      rcases hs3 with hs | hs | hs
      · rw [hs] at i0 i1
        have j0 : wr.cell? ⟨d, i * 4, none⟩ = some (.bool false) := i0
        have j1 : wr.cell? ⟨d, i * 4 + 1, none⟩ = some (.bool false) := i1
        have f0 := HD.out.fz (i * 4)
        have f3 := HD.out.fz (i * 4 + 3)
        have hne : w.heap.size ≠ d := by omega
        have AI := Lib.hid (AT.out i hlt HA.out hs)
        obtain ⟨g1, g2⟩ := HD.out.open (x := x) (i := i) (by rw [HN.out]; exact hlt) hs hx
        have GD := Lib.hid g1
        have GK := Lib.hid g2
        have GB := Lib.hid (HB.out.kept g2 hne)
        obtain ⟨k0, k1, k2⟩ := ob3 GB.out
        have kf0 := GB.out.frozen 0
        have kf1 := GB.out.frozen 1
        have kf2 := GB.out.frozen 2
        have hdd : d < wr.heap.size := HD.out.dt
        have hcd : c ≠ d := HD.out.ne
        have hcd2 : d ≠ c := fun e => hcd e.symm
        have hbc : w.heap.size ≠ c := fun e => by
          have h1 := HB.out.cell 0
          rw [e, c0] at h1
          cases h1
        clear i0 i1 g1 g2 hs
        generalize F.t.g i = fg at *
        obtain ⟨fx, hfx⟩ : ∃ fx, F.num i = fx := ⟨_, rfl⟩
        rw [hfx] at i3
        clear hfx
        go_wp2
        obtain ⟨hN, hK6⟩ := put3 GB.out (.int .i64 1) (.int .i64 i) (.int .u32 fg)
        refine dopen_ret hN rfl rfl rfl (AI.out _ (GD.out.kept hK6 (fun e => hbc e.symm) (fun e => hne e.symm)) ?_)
        have h1 : Kept (· = d) w wr := Kept.of_below HK.out
        exact keep_new (h1.trans GK.out) hK6
      · rw [hs] at i0 i1
        have j0 : wr.cell? ⟨d, i * 4, none⟩ = some (.bool true) := i0
        have HS : Hid (∀ j, j < i + 1 → F.t.s j ≠ 0) := fun j hj => by
          by_cases e : j = i
          · rw [e, hs]; omega
          · exact HA.out j (by omega)
        clear i0 i1 hs
        go_wp2
        go_roundw
        case rel => exact ⟨i + 1, by omega, by go_num, HS.out, HD.out, HB.out, HK.out⟩
        case measure => simp [intOf]; omega
      · rw [hs] at i0 i1
        have j0 : wr.cell? ⟨d, i * 4, none⟩ = some (.bool false) := i0
        have j1 : wr.cell? ⟨d, i * 4 + 1, none⟩ = some (.bool true) := i1
        have HS : Hid (∀ j, j < i + 1 → F.t.s j ≠ 0) := fun j hj => by
          by_cases e : j = i
          · rw [e, hs]; omega
          · exact HA.out j (by omega)
        clear i0 i1 hs
        go_wp2
        go_roundw
        case rel => exact ⟨i + 1, by omega, by go_num, HS.out, HD.out, HB.out, HK.out⟩
        case measure => simp [intOf]; omega
    · obtain rfl : i = n := by omega
      have FU := Lib.hid (FULL.out HA.out)
      obtain ⟨k0, k1, k2⟩ := ob3 HB.out
      have kf0 := HB.out.frozen 0
      have kf1 := HB.out.frozen 1
      have kf2 := HB.out.frozen 2
      have hbc : w.heap.size ≠ c := fun e => by
        have h1 := HB.out.cell 0
        rw [e, c0] at h1
        cases h1
      go_wp2
      obtain ⟨hN, hK6⟩ := put3 HB.out (.int .i64 0) (.int .i64 0) (.int .u32 0)
      refine dopen_ret hN rfl rfl rfl (FU.out _ (HD.out.kept hK6 (fun e => hbc e.symm) (fun e => by omega)) ?_)
      have h1 : Kept (· = d) w wr := Kept.of_below HK.out
      exact keep_new h1 hK6
end Go.Proofs.YtpinmiplefidpaaGreatDoor.FD

namespace Go.Proofs.YtpinmiplefidpaaGreatDoor.FD
open Go.RowKit

theorem Fb.all_eq (F : Fb) : F.all = F.t.held.map fun i => ⟨1, (i : Int), (F.t.g i : Int)⟩ := by
  simp [Fb.all, Tb.now, Tb.refs, fro, Function.comp_def]

/-! ### All, Len -/
/-- The open files below id i. -/
def Fb.upto (F : Fb) (i : Nat) : List Ro := (sel F.t.s 1 i).map fun (j : Nat) => ⟨1, (j : Int), (F.t.g j : Int)⟩
theorem upto_all (F : Fb) : F.upto F.t.n = F.all := (Fb.all_eq F).symm
theorem upto_yes {F : Fb} {i : Nat} (h : F.t.s i = 1) : F.upto (i + 1) = F.upto i ++ [⟨1, (i : Int), (F.t.g i : Int)⟩] := by
  unfold Fb.upto; rw [sel_snoc, if_pos h, List.map_append]; rfl
theorem upto_no {F : Fb} {i : Nat} (h : F.t.s i ≠ 1) : F.upto (i + 1) = F.upto i := by
  unfold Fb.upto; rw [sel_snoc, if_neg h, List.append_nil]
theorem upto_len (F : Fb) (i : Nat) : (F.upto i).length ≤ i := by
  unfold Fb.upto; rw [List.length_map]; exact sel_len _ _ _
set_option maxHeartbeats 4000000 in
set_option maxRecDepth 100000 in
theorem dall_ok (c d : Nat) (F : Fb) (w : World) (h : DW w c d F) : Calls Tryz.prog 95 #[.pointer (some ⟨c, 0, none⟩)] w (NewO F.all w) := by
  obtain ⟨n, hn⟩ : ∃ n, F.t.n = n := ⟨_, rfl⟩
  have hnb : n ≤ 64 := by rw [← hn]; exact h.ok.hi
  have HN := Lib.hid hn
  have HD0 := Lib.hid h
  have O0 : Hid (w.ownsRow w.heap.size 25 3 (.slice none 0 0) (F.upto 0).length (ocls (F.upto 0))) := World.ownsRow_nil _ _ _ _
  clear h hn
  go_enter Tryz.func95, Tryz.ntmps95
  go_wp2
  go_loopw [3, 4] (fun v u wr => ∃ i q p c', i ≤ n ∧ v = .slice p q c' ∧ u = .int .i64 (i : Nat) ∧ Hid ((F.upto i).length = q) ∧ Hid (wr.ownsRow w.heap.size 25 3 (.slice p q c') (F.upto i).length (ocls (F.upto i))) ∧ Hid (Below w.heap.size w wr)) (fun _ u _ => n - (intOf u).toNat)
  case atStart => exact ⟨0, 0, none, 0, Nat.zero_le _, rfl, rfl, rfl, O0.out, Below.refl _ _⟩
  case round =>
    clear O0
    obtain ⟨i, q, p, c', hi, rfl, rfl, HQ, HO, HB⟩ := hrel
    have HD := Lib.hid (HD0.out.below HB.out)
    obtain ⟨cap, c0, hc1, hc2⟩ := HD.out.c0
    rw [HN.out] at c0 hc1
    by_cases hlt : i < n
    · obtain ⟨i0, i1, i2, i3⟩ := HD.out.ci (i := i) (by rw [HN.out]; exact hlt)
      have hgm : F.t.g i ≤ 4294967295 := HD.out.ok.t.gm i
      clear i1 i3
      by_cases hs : F.t.s i = 1
      · have hu := upto_yes hs
        have hql : q ≤ 64 := by have := upto_len F i; have := HQ.out; omega
        have hb2 : w.heap.size ≤ wr.heap.size := HB.out.size
        rw [hs] at i0
        have j0 : wr.cell? ⟨d, i * 4, none⟩ = some (.bool true) := i0
        have HU := Lib.hid hu
        clear i0 hs hu
        generalize F.t.g i = fg at *
        go_wp2_with (at_builtin; refine wpList_app_o rfl _ _ rfl ⟨1, i, fg⟩ rfl rfl ?c1 (HO.out.alloc _) (Bk.new wr 25 #[.int .i64 1, .int .i64 i, .int .u32 fg]) ?c2 ?c3 ?_)
        case c1 => exact HQ.out
        case c2 => rw [HQ.out]; omega
        case c3 => simp; omega
        intro p' c2 w8 HA
        have HF : Hid (w8.ownsRow w.heap.size 25 3 (.slice p' (q + 1) c2) (F.upto (i + 1)).length (ocls (F.upto (i + 1))) ∧ (F.upto (i + 1)).length = q + 1 ∧ Below w.heap.size w w8) := by
          obtain ⟨h1, h2⟩ := HA.out
          rw [← show F.upto (i + 1) = F.upto i ++ [⟨1, (i : Int), (fg : Int)⟩] from HU.out] at h1
          refine ⟨h1, by rw [HU.out, List.length_append, HQ.out]; rfl, (HB.out.alloc hb2 _).trans (h2.below (by simp; omega) fun g e => (HO.out.lt g e).1)⟩
        clear HA
        go_wp2
        go_roundw
        case rel => exact ⟨i + 1, q + 1, p', c2, by omega, rfl, by go_num, HF.out.2.1, HF.out.1, HF.out.2.2⟩
        case measure => simp [intOf]; omega
      · have hu := upto_no hs
        have hb : (F.t.s i == 1) = false := by simp [hs]
        rw [hb] at i0
        have HU := Lib.hid hu
        clear hs hu hb
        go_wp2
        go_roundw
        case rel => exact ⟨i + 1, q, p, c', by omega, rfl, by go_num, by rw [HU.out]; exact HQ.out, by rw [HU.out]; exact HO.out, HB.out⟩
        case measure => simp [intOf]; omega
    · obtain rfl : i = n := by omega
      go_wp2
      go_ret
      have e : F.upto i = F.all := by rw [← HN.out]; exact upto_all F
      have hq := HQ.out
      have ho := HO.out
      rw [e] at hq ho
      subst hq
      exact ⟨p, c', rfl, ho, HB.out⟩
end Go.Proofs.YtpinmiplefidpaaGreatDoor.FD

namespace Go.Proofs.YtpinmiplefidpaaGreatDoor.FD
open Go.RowKit

theorem info_id : (Tryz.prog.info? 171).map (fun i => (i.zero, i.size, i.bytes)) = some (some (.agg #[.bool false, .bool false, .int .u32 0, .int .i64 0]), 4, 16) := by kernel_rfl
theorem dcl_one (s g x : Nat) : ∀ u ∈ dcl s g x, u.oneCell' = true := by
  intro u hu
  simp only [dcl, List.mem_cons, List.not_mem_nil, or_false] at hu
  rcases hu with rfl | rfl | rfl | rfl <;> rfl
theorem dcls_one (F : Fb) (k : Nat) : ∀ u ∈ F.dcls k, u.oneCell' = true := by
  intro u hu
  obtain ⟨i, _, h⟩ := List.mem_flatMap.1 hu
  exact dcl_one _ _ _ u h
/-- A row that the call owns, and the struct that names it, are the document's table. -/
theorem dw_of_own {w : World} {base c n : Nat} {v : Value} {F : Fb} (ho : F.Ok) (hn : F.t.n = n) (hc : Bk w c 169 #[v]) (h : w.ownsRow base 171 4 v n (F.dcls n)) : ∃ d, base ≤ d ∧ DW w c d F := by
  have hlo := ho.t.lo
  rcases h.2 with ⟨rfl, h0⟩ | ⟨g, cap, cur, rfl, h1, h2, h3, h4, h5, h6⟩
  · omega
  · refine ⟨g, h1, ho, cap, cur, by rw [hn]; exact hc, h2, h5, by omega, h4, fun i hi q hq => ?_⟩
    rw [hn] at hi
    have := dcls_at F n i hi q hq
    rw [← h6, List.getElem?_take_of_lt (by omega), Array.getElem?_toList] at this
    exact this
theorem own_id_form {w : World} {base n : Nat} {v : Value} {xs : List Value} (h : w.ownsRow base 171 4 v n xs) : ∃ p c, v = .slice p n c := by
  rcases h.2 with ⟨rfl, h0⟩ | ⟨g', cap, cur, rfl, _⟩
  · exact ⟨_, _, by rw [h0]⟩
  · exact ⟨_, _, rfl⟩
/-- A new table of the document's. -/
def DNew (F : Fb) (w : World) (c : Nat) (w' : World) : Prop := ∃ d, DW w' c d F ∧ w.heap.size ≤ c ∧ w.heap.size ≤ d ∧ Below w.heap.size w w'
set_option maxHeartbeats 1000000 in
set_option maxRecDepth 1000000 in
theorem dcopy_ok (c d : Nat) (F : Fb) (w : World) (h : DW w c d F) : Calls Tryz.prog 87 #[.pointer (some ⟨c, 0, none⟩)] w fun e w' => ∃ c', e = .returned (.pointer (some ⟨c', 0, none⟩)) ∧ Hid (DNew F w c' w') := by
  obtain ⟨i0, hi, hz0, hz1, hz2⟩ := info_parts info_id
  obtain ⟨cap, hc, hcap, hcm⟩ := h.c0
  have hn := h.ok.hi
  have hct := h.ct
  have hdt := h.dt
  have HO : Hid ((w.alloc (.cells #[] 171)).ownsRow w.heap.size 171 4 (.slice (some ⟨w.heap.size, 0, none⟩) 0 0) 0 []) := World.ownsRow_lit w #[] 0 (Nat.le_refl _) (by decide) rfl
  have hbn : Below w.heap.size w (w.alloc (.cells #[] 171)) := (Below.refl _ w).alloc (Nat.le_refl _) _
  have hc' := cell_keeps hbn hc
  have H := Lib.hid (h.below hbn)
  clear h hbn
  go_enter Tryz.func87, Tryz.ntmps87
  go_wp2_with (at_builtin; refine wpList_append_own _ rfl _ _ 167 rfl w.heap.size 171 i0 _ 4 16 Tryz.underlying167 hi hz0 hz1 hz2 rfl (by decide) _ 0 [] rfl HO.out ⟨d, 0, none⟩ F.t.n cap (F.dcls F.t.n) rfl (dcls_len F _) ?c1 (dcls_one F _) ?c2 ?c3 ?c4 ?_)
  case c1 =>
    intro j u hj
    have hjl := (List.getElem?_eq_some_iff.1 hj).1
    rw [dcls_len] at hjl
    have e : (⟨d, 0, none⟩ : Addr).add j = ⟨d, j, none⟩ := by unfold Addr.add; split <;> simp_all
    obtain ⟨cap', cur, _, h2, _, _, _, h6⟩ := H.out.at_
    have hp := dcls_at F F.t.n (j / 4) (by omega) (j % 4) (by omega)
    have hq := h6 (j / 4) (by omega) (j % 4) (by omega)
    rw [show j / 4 * 4 + j % 4 = j by omega] at hp hq
    rw [e, h2.cell, hq, ← hp, hj]
  case c2 => unfold maxLen; omega
  case c3 => omega
  case c4 => simp
  intro v' w1 hown hgrow _
  have hown' : w1.ownsRow w.heap.size 171 4 v' F.t.n (F.dcls F.t.n) := by simpa using hown
  obtain ⟨p, c2, rfl⟩ := own_id_form hown'
  have hB : Below w.heap.size w w1 := ((Below.refl _ w).alloc (Nat.le_refl _) _).grown hgrow (by simp) (fun k hk => (HO.out.lt k hk).1)
  have HN : Hid (DNew F w w1.heap.size (w1.alloc (.cells #[.slice p F.t.n c2] 169))) := by
    have h3 := hown'.alloc (.cells #[.slice p F.t.n c2] 169)
    obtain ⟨d', h4, h5⟩ := dw_of_own H.out.ok rfl (Bk.new w1 169 #[.slice p F.t.n c2]) h3
    exact ⟨d', h5, hB.size, h4, bel_alloc hB _⟩
  clear hown hown' hgrow hB
  go_wp2
  go_ret
  exact ⟨_, rfl, HN⟩

/-! ### New -/
set_option maxRecDepth 100000 in
theorem dnew_bad (n g : Int) (w : World) (hn : I64 n) (hg : 0 ≤ g ∧ g ≤ 4294967295) (h : FBad n g) :
    Calls Tryz.prog 57 #[.int .i64 n, .int .u32 g] w fun e w' => e = .returned (.tuple #[.pointer none, .int .i64 2]) ∧ w = w' := by
  obtain ⟨n0, n1⟩ := hn
  obtain ⟨g0, g1⟩ := hg
  by_cases c1 : n < 1
  · go_enter Tryz.func57, Tryz.ntmps57
    go_wp2
    go_ret2
    exact ⟨rfl, rfl⟩
  by_cases c2 : 64 < n
  · go_enter Tryz.func57, Tryz.ntmps57
    go_wp2
    go_ret2
    exact ⟨rfl, rfl⟩
  obtain rfl : g = 0 := by unfold FBad at h; omega
  go_enter Tryz.func57, Tryz.ntmps57
  go_wp2
  go_ret2
  exact ⟨rfl, rfl⟩
structure DNSt (w0 w : World) (v : Value) (F : Fb) (k : Nat) : Prop where
  bk : Bk w w0.heap.size 169 #[v]
  o : w.ownsRow (w0.heap.size + 1) 171 4 v k (F.dcls k)
  bel : Below w0.heap.size w0 w
theorem own_id_at {w w' : World} {base n c : Nat} {v : Value} {xs : List Value} (h : w.ownsRow base 171 4 v n xs) (k : Kept (· = c) w w') (hc : c < base) : w'.ownsRow base 171 4 v n xs :=
  own_same h fun g hg => k.block g (h.lt g hg).2 (by have := (h.lt g hg).1; omega)
set_option maxRecDepth 100000 in
set_option maxHeartbeats 2000000 in
theorem dnew_ok (n first : Nat) (w : World) (h1 : 1 ≤ n) (h2 : n ≤ 64) (h3 : 1 ≤ first) (h4 : first ≤ 4294967295) : Calls Tryz.prog 57 #[.int .i64 n, .int .u32 first] w fun e w' => ∃ c, e = .returned (.tuple #[.pointer (some ⟨c, 0, none⟩), .int .i64 0]) ∧ Hid (DNew (ffresh n first) w c w') := by
  obtain ⟨i0, hi, hz0, hz1, hz2⟩ := info_parts info_id
  have ST : Hid (∃ v, DNSt w (w.alloc (.cells #[.slice none 0 0] 169)) v (ffresh n first) 0) := ⟨.slice none 0 0, Bk.new w _ _, World.ownsRow_nil _ _ _ _, (Below.refl _ w).alloc (Nat.le_refl _) _⟩
  have hz : ((first : Int) == 0) = false := beq_eq_false_iff_ne.2 (by omega)
  have hn1 : ¬ (n : Int) < 1 := by omega
  have hn2 : ¬ 64 < (n : Int) := by omega
  go_enter Tryz.func57, Tryz.ntmps57
  go_wp2
  generalize w.alloc (.cells #[.slice none 0 0] 169) = w1 at *
  go_loopw [7] (fun i wr => ∃ k : Nat, k ≤ n ∧ i = .int .i64 k ∧ Hid (∃ v, DNSt w wr v (ffresh n first) k)) (fun i _ => n - (intOf i).toNat)
  case atStart => exact ⟨0, Nat.zero_le _, rfl, ST.out⟩
  case round =>
    clear ST
    obtain ⟨k, hk, rfl, HS⟩ := hrel
    obtain ⟨v, hv⟩ := HS.out
    obtain ⟨p, c', rfl⟩ := own_id_form hv.o
    have HV := Lib.hid hv
    have hc : wr.cell? ⟨w.heap.size, 0, none⟩ = some (.slice p k c') := hv.bk.cell 0
    have hlt0 := hv.bk.lt
    clear hv HS
    by_cases hlt : k < n
    · have hgk : (ffresh n first).t.g k = first := if_pos hlt
      have HG := Lib.hid hgk
      clear hgk
      go_wp2_with (at_builtin; refine wpList_append_own _ rfl _ _ 167 rfl (w.heap.size + 1) 171 i0 _ 4 16 Tryz.underlying167 hi hz0 hz1 hz2 rfl (by decide) _ _ _ rfl (HV.out.o.alloc _) ⟨wr.heap.size, 0, none⟩ 1 1 (dcl 0 first 0) rfl rfl ?c1 (dcl_one _ _ _) ?c2 ?c3 ?c4 ?_)
      case c1 =>
        intro j u hj
        have e : (⟨wr.heap.size, 0, none⟩ : Addr).add j = ⟨wr.heap.size, j, none⟩ := by unfold Addr.add; split <;> simp_all
        rw [e, (Bk.new wr _ _).cell]
        show (dcl 0 first 0).toArray[j]? = some u
        rw [List.getElem?_toArray]
        exact hj
      case c2 => unfold maxLen; omega
      case c3 => omega
      case c4 => simp; omega
      intro v' w2 hown' hgrow _
      obtain ⟨p', c2, rfl⟩ := own_id_form hown'
      have hge : ∀ j, (Value.slice p k c').ownBlock = some j → w.heap.size + 1 ≤ j := fun j ej => (HV.out.o.lt j ej).1
      have hb2 : Bk w2 w.heap.size 169 #[.slice p k c'] := by
        have e : w2.heap[w.heap.size]? = wr.heap[w.heap.size]? := by
          rw [hgrow.block w.heap.size (by simp; omega) (fun e => by have := hge _ e.symm; omega)]
          exact Below.heap_alloc _ _ _ hlt0
        exact HV.out.bk.same e
      have hbel2 : Below w.heap.size w w2 := (HV.out.bel.alloc HV.out.bel.size _).grown hgrow (by have := HV.out.bel.size; simp; omega) (fun j ej => by have := hge j ej; omega)
      have hc2 : w2.cell? ⟨w.heap.size, 0, none⟩ = some (.slice p k c') := hb2.cell 0
      have hf2 := hb2.frozen 0
      have HS2 : Hid (DNSt w (w2.setCell ⟨w.heap.size, 0, none⟩ (.slice p' (k + 1) c2)) (.slice p' (k + 1) c2) (ffresh n first) (k + 1)) := by
        refine ⟨hb2.put 0 _, ?_, hbel2.setCell (p := ⟨w.heap.size, 0, none⟩) (Nat.le_refl _) _⟩
        have hp : (ffresh n first).dcls (k + 1) = (ffresh n first).dcls k ++ dcl 0 first 0 := by
          rw [dcls_snoc, HG.out]; rfl
        rw [hp]
        exact own_id_at hown' ((Kept.refl (· = w.heap.size) w2).put1 0 _) (Nat.lt_succ_self _)
      clear hown' hgrow hb2 hbel2 hge hc
      go_wp2
      go_roundw
      case rel => exact ⟨k + 1, by omega, by go_num, _, HS2.out⟩
      case measure => simp [intOf]; omega
    · obtain rfl : k = n := by omega
      have HR : Hid (DNew (ffresh k first) w w.heap.size wr) := by
        obtain ⟨d, hd, hR⟩ := dw_of_own (ffresh_ok h1 h2 h3 h4) rfl HV.out.bk HV.out.o
        exact ⟨d, hR, Nat.le_refl _, by omega, HV.out.bel⟩
      clear hc
      go_wp2
      go_ret2
      exact ⟨_, rfl, HR⟩
end Go.Proofs.YtpinmiplefidpaaGreatDoor.FD
