/- The contracts of the document's All, Len, New and Copy. -/
import Derived.Test.YthahmcipkchdjaaFu
import Derived.Test.YthahmcipkchdjaaFp
import Derived.Test.YthahmcipkchdjaaFi
namespace Go.Proofs.Ythahmcipkchdjaa
open Go.RowKit

/-! ### All, Len -/
/-- The open files below id i. -/
def Fb.upto (F : Fb) (i : Nat) : List Ro := (sel F.t.s 1 i).map fun (j : Nat) => ⟨1, (j : Int), (F.t.g j : Int)⟩
theorem upto_all (F : Fb) : F.upto F.t.n = F.all := (Fb.all_eq F).symm
theorem upto_yes {F : Fb} {i : Nat} (h : F.t.s i = 1) : F.upto (i + 1) = F.upto i ++ [⟨1, (i : Int), (F.t.g i : Int)⟩] := by
  unfold Fb.upto; rw [sel_snoc, if_pos h, List.map_append]; rfl
theorem upto_no {F : Fb} {i : Nat} (h : F.t.s i ≠ 1) : F.upto (i + 1) = F.upto i := by
  unfold Fb.upto; rw [sel_snoc, if_neg h, List.append_nil]
theorem upto_len (F : Fb) (i : Nat) : (F.upto i).length ≤ i := by
  unfold Fb.upto; rw [List.length_map]; exact sel_len _ _ _
set_option maxHeartbeats 4000000 in
theorem dall_ok (c d : Nat) (F : Fb) (w : World) (h : DW w c d F) : Calls Try.prog 13 #[.pointer (some ⟨c, 0, none⟩)] w (NewO F.all w) := by
  obtain ⟨n, hn⟩ : ∃ n, F.t.n = n := ⟨_, rfl⟩
  have hnb : n ≤ 64 := by rw [← hn]; exact h.ok.hi
  have HN := Lib.hid hn
  have HD0 := Lib.hid h
  have O0 : Hid (w.ownsRow w.heap.size 25 3 (.slice none 0 0) (F.upto 0).length (ocls (F.upto 0))) := World.ownsRow_nil _ _ _ _
  clear h hn
  go_enter Try.func13, Try.ntmps13
  go_wp2
  go_loopw [3, 4] (fun v u wr => ∃ i q p c', i ≤ n ∧ v = .slice p q c' ∧ u = .int .i64 (i : Nat) ∧ Hid ((F.upto i).length = q) ∧ Hid (wr.ownsRow w.heap.size 25 3 (.slice p q c') (F.upto i).length (ocls (F.upto i))) ∧ Hid (Below w.heap.size w wr)) (fun _ u _ => n - (intOf u).toNat)
  case atStart => exact ⟨0, 0, none, 0, Nat.zero_le _, rfl, rfl, rfl, O0.out, Below.refl _ _⟩
  case round =>
    clear O0
    obtain ⟨i, q, p, c', hi, rfl, rfl, HQ, HO, HB⟩ := hrel
    have HD := Lib.hid (HD0.out.below HB.out)
    obtain ⟨cap, c0, hc1, hc2⟩ := HD.out.c0
    rw [HN.out] at c0 hc1
    by_cases hlt : i < n
    · obtain ⟨i0, i1, i2, i3⟩ := HD.out.ci (i := i) (by rw [HN.out]; exact hlt)
      have hgm : F.t.g i ≤ 4294967295 := HD.out.ok.t.gm i
      clear i1 i3
      by_cases hs : F.t.s i = 1
      · have hu := upto_yes hs
        have hql : q ≤ 64 := by have := upto_len F i; have := HQ.out; omega
        have hb2 : w.heap.size ≤ wr.heap.size := HB.out.size
        rw [hs] at i0
        have j0 : wr.cell? ⟨d, i * 4, none⟩ = some (.bool true) := i0
        have HU := Lib.hid hu
        clear i0 hs hu
        generalize F.t.g i = fg at *
        go_wp2_with (at_builtin; refine wpList_app_o rfl _ _ rfl ⟨1, i, fg⟩ rfl rfl ?c1 (HO.out.alloc _) (Bk.new wr 25 #[.int .i64 1, .int .i64 i, .int .u32 fg]) ?c2 ?c3 ?_)
        case c1 => exact HQ.out
        case c2 => rw [HQ.out]; omega
        case c3 => simp; omega
        intro p' c2 w8 HA
        have HF : Hid (w8.ownsRow w.heap.size 25 3 (.slice p' (q + 1) c2) (F.upto (i + 1)).length (ocls (F.upto (i + 1))) ∧ (F.upto (i + 1)).length = q + 1 ∧ Below w.heap.size w w8) := by
          obtain ⟨h1, h2⟩ := HA.out
          rw [← show F.upto (i + 1) = F.upto i ++ [⟨1, (i : Int), (fg : Int)⟩] from HU.out] at h1
          refine ⟨h1, by rw [HU.out, List.length_append, HQ.out]; rfl, (HB.out.alloc hb2 _).trans (h2.below (by simp; omega) fun g e => (HO.out.lt g e).1)⟩
        clear HA
        go_wp2
        go_roundw
        case rel => exact ⟨i + 1, q + 1, p', c2, by omega, rfl, by go_num, HF.out.2.1, HF.out.1, HF.out.2.2⟩
        case measure => simp [intOf]; omega
      · have hu := upto_no hs
        have hb : (F.t.s i == 1) = false := by simp [hs]
        rw [hb] at i0
        have HU := Lib.hid hu
        clear hs hu hb
        go_wp2
        go_roundw
        case rel => exact ⟨i + 1, q, p, c', by omega, rfl, by go_num, by rw [HU.out]; exact HQ.out, by rw [HU.out]; exact HO.out, HB.out⟩
        case measure => simp [intOf]; omega
    · obtain rfl : i = n := by omega
      go_wp2
      go_ret
      have e : F.upto i = F.all := by rw [← HN.out]; exact upto_all F
      have hq := HQ.out
      have ho := HO.out
      rw [e] at hq ho
      subst hq
      exact ⟨p, c', rfl, ho, HB.out⟩
theorem dlen_ok (c d : Nat) (F : Fb) (w : World) (h : DW w c d F) : Calls Try.prog 44 #[.pointer (some ⟨c, 0, none⟩)] w fun e w' => e = .returned (.int .i64 F.t.held.length) ∧ Below w.heap.size w w' := by
  have AL := Lib.hid (dall_ok c d F w h)
  have hl := F.all_len
  have hb := h.ok.held_len
  rw [← hl]
  clear hl
  generalize F.all = L at *
  clear h
  go_enter Try.func44, Try.ntmps44
  go_wp2_with (go_at_call 13; refine AL.out.mono ?_; rintro e w1 ⟨p, c', rfl, _, hb1⟩; have HB := Lib.hid hb1; clear hb1)
  go_ret
  exact ⟨rfl, HB.out⟩
end Go.Proofs.Ythahmcipkchdjaa
