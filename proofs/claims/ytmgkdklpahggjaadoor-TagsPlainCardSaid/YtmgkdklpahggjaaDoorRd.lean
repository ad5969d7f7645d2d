/- The contracts of the document's Check and Width. -/
import Derived.Test.YtmgkdklpahggjaaDoorRc
namespace Go.Proofs.YtmgkdklpahggjaaDoor
open Go.RowKit

theorem ints_get (rs : List Nat) (k : Nat) (h : k < rs.length) : (ints rs)[k]? = some (.int .i64 (rs[k] : Int)) := by
  simp [ints, List.getElem?_eq_getElem h]
/-- The cells of the runes that were given. -/
theorem ints_cell {w : World} {base g cap : Nat} {rs : List Nat} (h : w.ownsRow base 3 1 (.slice (some ⟨g, 0, none⟩) rs.length cap) rs.length (ints rs)) (k : Nat) (hk : k < rs.length) : w.cell? ⟨g, k, none⟩ = some (.int .i64 (rs[k] : Int)) := by
  rw [World.ownsRow.cellAt h k (by omega), ints_get rs k hk]

def RcPost (rs : List Nat) (n : Nat) (w : World) (e : Ending) (w' : World) : Prop :=
  Below n w w' ∧ (((1 ≤ rs.length ∧ rs.length ≤ 24 ∧ ∀ r ∈ rs, GoodR r) ∧ e = .returned (.int .i64 0)) ∨ (¬ (1 ≤ rs.length ∧ rs.length ≤ 24 ∧ ∀ r ∈ rs, GoodR r) ∧ e = .returned (.int .i64 16)))

theorem len_slice {w : World} {base : Nat} {v : Value} {rs : List Nat} (h : w.ownsRow base 3 1 v rs.length (ints rs)) : (v = .slice none 0 0 ∧ rs = []) ∨ ∃ g cap, v = .slice (some ⟨g, 0, none⟩) rs.length cap ∧ base ≤ g := by
  rcases h.2 with ⟨hv, h0⟩ | ⟨g, cap, cur, hv, hb, _⟩
  · exact .inl ⟨hv, List.eq_nil_of_length_eq_zero h0⟩
  · exact .inr ⟨g, cap, hv, hb⟩

set_option maxRecDepth 100000 in
set_option maxHeartbeats 2000000 in
theorem rcheck_utf (s : ByteArray) (rs : List Nat) (w : World) (hs : s.size ≤ 1000000) (hu : Utf s.data.toList rs) :
    Calls Tryd.prog 19 #[.string s] w (RcPost rs w.heap.size w) := by
  have HU := Lib.hid hu
  have hle := (utf_len hu).1
  rw [← Lib.size_eq] at hle
  clear hu
  go_enter Tryd.func19, Tryd.ntmps19
  go_wp2_with fail
  refine (rrunes_any s _ hs).mono ?_
  rintro e w1 ⟨hb1, ⟨ts, v, hts, rfl, hown⟩ | ⟨hno, _⟩⟩
  rotate_left
  · exact absurd HU.out (hno rs)
  obtain rfl := utf_unique HU.out hts
  clear hts
  rcases len_slice hown with ⟨rfl, hnil⟩ | ⟨g, cap, rfl, hg⟩
  · subst hnil
    clear hown
    go_wp2
    go_ret
    exact ⟨hb1, .inr ⟨by simp, rfl⟩⟩
  by_cases h1 : rs.length < 1
  · have HOWN := Lib.hid hown
    clear hown
    go_wp2
    go_ret
    exact ⟨hb1, .inr ⟨by omega, rfl⟩⟩
  by_cases h24 : 24 < rs.length
  · have HOWN := Lib.hid hown
    clear hown
    go_wp2
    go_ret
    exact ⟨hb1, .inr ⟨by omega, rfl⟩⟩
  have HOWN := Lib.hid hown
  clear hown
  go_wp2
  go_loop [5] (fun i => ∃ k : Nat, k ≤ rs.length ∧ i = .int .i64 k ∧ Hid (∀ j (h : j < rs.length), j < k → GoodR rs[j])) (fun i => rs.length - (intOf i).toNat)
  case atStart => exact ⟨0, Nat.zero_le _, rfl, fun j _ h => absurd h (by omega)⟩
  case round =>
    obtain ⟨k, hk, rfl, HG⟩ := hrel
    by_cases hlt : k < rs.length
    · have hcell := ints_cell HOWN.out k hlt
      obtain ⟨r, hr⟩ : ∃ r, rs[k] = r := ⟨_, rfl⟩
      rw [hr] at hcell
      have HR := Lib.hid hr
      have hrb : r ≤ 1114111 := by rw [← hr]; exact okRune_le (HU.out.1 _ (List.getElem_mem hlt))
      clear hr
      by_cases hgood : 32 ≤ r ∧ r ≠ 127
      · obtain ⟨h32, h127⟩ := hgood
        have hne : ((r : Int) == 127) = false := beq_eq_false_iff_ne.2 (by omega)
        go_wp2
        go_round
        case rel =>
          refine ⟨k + 1, by omega, by go_num, ?_⟩
          intro j hj hjk
          by_cases e : j = k
          · subst e; rw [HR.out]; exact ⟨h32, h127⟩
          · exact HG.out j hj (by omega)
        case measure => simp [intOf]; omega
      · have hbad : ¬ (1 ≤ rs.length ∧ rs.length ≤ 24 ∧ ∀ r ∈ rs, GoodR r) := fun h => hgood (by have := h.2.2 rs[k] (List.getElem_mem hlt); rw [HR.out] at this; exact this)
        have HB := Lib.hid hbad
        by_cases h32 : r < 32
        · clear hgood hbad
          go_wp2
          go_ret
          exact ⟨hb1, .inr ⟨HB.out, rfl⟩⟩
        · obtain rfl : r = 127 := by omega
          clear hgood hbad
          go_wp2
          go_ret
          exact ⟨hb1, .inr ⟨HB.out, rfl⟩⟩
    · go_wp2
      go_ret
      refine ⟨hb1, .inl ⟨⟨by omega, by omega, ?_⟩, rfl⟩⟩
      intro r hr
      obtain ⟨j, hj, rfl⟩ := List.getElem_of_mem hr
      exact HG.out j hj (by omega)

theorem rcheck_tag (s : ByteArray) (rs : List Nat) (w : World) (h : Tag s.data.toList rs) :
    Calls Tryd.prog 19 #[.string s] w fun e w' => e = .returned (.int .i64 0) ∧ Below w.heap.size w w' := by
  refine (rcheck_utf s rs w (by rw [Lib.size_eq]; have := (tag_len h).2; omega) h.utf).mono ?_
  rintro e w' ⟨hb, ⟨_, he⟩ | ⟨hn, _⟩⟩
  · exact ⟨he, hb⟩
  · exact absurd ⟨h.pos, h.le, h.good⟩ hn
set_option maxRecDepth 100000 in
set_option maxHeartbeats 400000 in
theorem rcheck_bad (s : ByteArray) (w : World) (hs : s.size ≤ 1000000) (h : ∀ rs, ¬ Utf s.data.toList rs) :
    Calls Tryd.prog 19 #[.string s] w fun e w' => e = .returned (.int .i64 16) ∧ Below w.heap.size w w' := by
  have HN := Lib.hid h
  clear h
  go_enter Tryd.func19, Tryd.ntmps19
  go_wp2_with fail
  refine (rrunes_any s _ hs).mono ?_
  rintro e w1 ⟨hb1, ⟨ts, v, hts, rfl, hown⟩ | ⟨hno, rfl⟩⟩
  · exact absurd hts (HN.out ts)
  · clear hno
    go_wp2
    go_ret
    exact ⟨rfl, hb1⟩
theorem rcheck_no (s : ByteArray) (w : World) (hs : s.size ≤ 1000000) (h : NoTag s.data.toList) :
    Calls Tryd.prog 19 #[.string s] w fun e w' => e = .returned (.int .i64 16) ∧ Below w.heap.size w w' := by
  rcases utf_dec s.data.toList with ⟨rs, hu⟩ | ⟨_, hn⟩
  · refine (rcheck_utf s rs w hs hu).mono ?_
    rintro e w' ⟨hb, ⟨hg, _⟩ | ⟨_, he⟩⟩
    · exact absurd ⟨hu, hg.1, hg.2.1, hg.2.2⟩ (h rs)
    · exact ⟨he, hb⟩
  · exact rcheck_bad s w hs hn

/-! ### Width -/
set_option maxRecDepth 100000 in
set_option maxHeartbeats 2000000 in
theorem rwidth_tag (s : ByteArray) (rs : List Nat) (w : World) (h : Tag s.data.toList rs) :
    Calls Tryd.prog 17 #[.string s] w fun e w' => e = .returned (.tuple #[.int .i64 (wids rs), .int .i64 0]) ∧ Below w.heap.size w w' := by
  have hs : s.size ≤ 1000000 := by rw [Lib.size_eq]; have := (tag_len h).2; omega
  have h24 := h.le
  have hw48 : wids rs ≤ 48 := by have := (wids_le rs).2; omega
  have HT := Lib.hid h
  clear h
  go_enter Tryd.func17, Tryd.ntmps17
  go_wp2_with fail
  refine (rcheck_tag s rs _ HT.out).mono ?_
  rintro e w1 ⟨rfl, hb1⟩
  go_wp2_with fail
  refine (rrunes_any s _ hs).mono ?_
  rintro e w2 ⟨hb2, ⟨ts, v, hts, rfl, hown⟩ | ⟨hno, _⟩⟩
  rotate_left
  · exact absurd HT.out.utf (hno rs)
  obtain rfl := utf_unique HT.out.utf hts
  clear hts
  have hpos := HT.out.pos
  rcases len_slice hown with ⟨rfl, hnil⟩ | ⟨g, cap, rfl, hg⟩
  · subst hnil
    simp at hpos
  have HOWN := Lib.hid hown
  have HB := Lib.hid (bel2 hb1 hb2)
  clear hown hb1 hb2
  go_wp2
  go_loop [6, 7] (fun n i => ∃ k : Nat, k ≤ rs.length ∧ i = .int .i64 k ∧ n = .int .i64 (wids (rs.take k))) (fun _ i => rs.length - (intOf i).toNat)
  case atStart => exact ⟨0, Nat.zero_le _, rfl, rfl⟩
  case round =>
    obtain ⟨k, hk, rfl, rfl⟩ := hrel
    by_cases hlt : k < rs.length
    · have hcell := ints_cell HOWN.out k hlt
      have hts : rs.take (k + 1) = rs.take k ++ [rs[k]] := List.take_succ_eq_append_getElem hlt
      have hwk : wids (rs.take k) + wid rs[k] ≤ 48 := by
        have : rs = rs.take k ++ rs[k] :: rs.drop (k + 1) := by simp
        rw [this, wids_append, wids_cons] at hw48
        omega
      have H12 := wid_12 rs[k]
      obtain ⟨r, hr⟩ : ∃ r, rs[k] = r := ⟨_, rfl⟩
      rw [hr] at hcell hwk hts H12
      have HTS := Lib.hid hts
      clear hts hr
      generalize hwt : wids (rs.take k) = wt at *
      have HWT := Lib.hid hwt
      clear hwt
      go_wp2_with fail
      refine (rwide_any r _).mono ?_
      rintro e w3 ⟨rfl, rfl⟩
      go_wp2
      go_round
      case rel =>
        refine ⟨k + 1, by omega, by go_num, ?_⟩
        rw [HTS.out, wids_append, HWT.out]
        simp [wids]
      case measure => simp [intOf]; omega
    · obtain rfl : k = rs.length := by omega
      rw [List.take_length]
      go_wp2
      go_ret2
      exact ⟨rfl, HB.out⟩
set_option maxRecDepth 100000 in
set_option maxHeartbeats 400000 in
theorem rwidth_no (s : ByteArray) (w : World) (hs : s.size ≤ 1000000) (h : NoTag s.data.toList) :
    Calls Tryd.prog 17 #[.string s] w fun e w' => e = .returned (.tuple #[.int .i64 0, .int .i64 16]) ∧ Below w.heap.size w w' := by
  have HN := Lib.hid h
  clear h
  go_enter Tryd.func17, Tryd.ntmps17
  go_wp2_with fail
  refine (rcheck_no s _ hs HN.out).mono ?_
  rintro e w1 ⟨rfl, hb1⟩
  go_wp2
  go_ret2
  exact ⟨rfl, hb1⟩
end Go.Proofs.YtmgkdklpahggjaaDoor
