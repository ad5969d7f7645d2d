/- The contract of tags.every with the closure of Check, and of tags.Check. -/
import Derived.Test.YtmgkdklpahggjaaDoorCa
namespace Go.Proofs.YtmgkdklpahggjaaDoor
open Go.RowKit

/-- What every says of a text's runes, and what the counter holds. -/
def EvPost (rs : List Nat) (b : Nat) (w : World) (e : Ending) (w' : World) : Prop :=
  Below b w w' ∧ (((rs.length ≤ 24 ∧ ∀ r ∈ rs, GoodR r) ∧ e = .returned (.bool true) ∧ w'.cell? ⟨b, 0, none⟩ = some (.int .i64 rs.length)) ∨ (¬ (rs.length ≤ 24 ∧ ∀ r ∈ rs, GoodR r) ∧ e = .returned (.bool false)))

/-- How far the range has come. -/
def EvRel (s : ByteArray) (rs : List Nat) (b k1 : Nat) (w wr : World) : Prop :=
  ∃ (ps ts : List Nat), rs = ps ++ ts ∧ ps.length ≤ 24 ∧ (∀ r ∈ ps, GoodR r) ∧ Below b w wr ∧ wr.heap[k1]? = some (.stringIter s (ps.flatMap encR).length) ∧ wr.cell? ⟨b, 0, none⟩ = some (.int .i64 ps.length) ∧ wr.frozen? ⟨b, 0, none⟩ = false

theorem cell_iterAt (w : World) (k b o : Nat) (s : ByteArray) (pos : Nat) (h : b ≠ k) : (w.iterAt k s pos).cell? ⟨b, o, none⟩ = w.cell? ⟨b, o, none⟩ := by
  simp only [World.cell?, Lib.iterAt_other w k b s pos h]
theorem frozen_iterAt (w : World) (k b o : Nat) (s : ByteArray) (pos : Nat) (h : b ≠ k) : (w.iterAt k s pos).frozen? ⟨b, o, none⟩ = w.frozen? ⟨b, o, none⟩ := by
  simp only [World.frozen?, Lib.iterAt_other w k b s pos h]

set_option maxRecDepth 100000 in
set_option maxHeartbeats 1000000 in
theorem every_chk (s : ByteArray) (rs : List Nat) (b : Nat) (w : World) (hs : s.size ≤ 140737488351232) (he : Env w) (hu : Utf s.data.toList rs)
    (hc : w.cell? ⟨b, 0, none⟩ = some (.int .i64 0)) (hf : w.frozen? ⟨b, 0, none⟩ = false) :
    Calls Tryd.prog 32 #[.string s, .func (.func 33) #[] #[.pointer (some ⟨b, 0, none⟩)]] w (EvPost rs b w) := by
  have hb : b < w.heap.size := World.block_lt_of_cell? _ _ hc
  have HU := Lib.hid hu
  clear hu
  go_enter Tryd.func32, Tryd.ntmps32
  go_wp2_with fail
  refine (valid_yes s rs _ hs he HU.out).mono ?_
  rintro e w1 ⟨rfl, hb1⟩
  obtain ⟨hcc, hff⟩ := bcell hb1
  have hc1 : w1.cell? ⟨b, 0, none⟩ = some (.int .i64 0) := (hcc _ _ hb).trans hc
  have hf1 : w1.frozen? ⟨b, 0, none⟩ = false := (hff _ _ hb).trans hf
  have hs1 : w.heap.size ≤ w1.heap.size := hb1.size
  clear hcc hff hc hf
  go_wp2_with fail
  have hit0 : (w1.iter s 0).heap[w1.heap.size]? = some (.stringIter s 0) := World.iter_heap w1 s 0
  have hbi : Below b w (w1.iter s 0) := (hb1.mono (by omega)).trans ((Below.refl b w1).alloc (by omega) _)
  have hci : (w1.iter s 0).cell? ⟨b, 0, none⟩ = some (.int .i64 0) := (((Below.refl _ w1).alloc (Nat.le_refl _) (.stringIter s 0)).cell (p := ⟨b, 0, none⟩) (by simp; omega)).trans hc1
  have hfi : (w1.iter s 0).frozen? ⟨b, 0, none⟩ = false := (((Below.refl _ w1).alloc (Nat.le_refl _) (.stringIter s 0)).frozen (p := ⟨b, 0, none⟩) (by simp; omega)).trans hf1
  go_loopw [] (fun wr => EvRel s rs b w1.heap.size w wr) (fun wr => s.size - wr.iterPos w1.heap.size)
  case atStart => exact ⟨[], rs, rfl, by simp, by simp, hbi, by simpa using hit0, by simpa using hci, hfi⟩
  case round =>
    clear hit0 hbi hci hfi hc1 hf1
    obtain ⟨ps, ts, rfl, hk, hg, hbw, hit, hc, hf⟩ := hrel
    have hbk : b ≠ w1.heap.size := by omega
    cases ts with
    | nil =>
      have hp : ¬ (ps.flatMap encR).length < s.size := by rw [Lib.size_eq, HU.out.2]; simp
      have hnx : ∀ ty, (Instr.next (.pointer (some ⟨w1.heap.size, 0, none⟩)) true ty).run Tryd.prog wr = _ := fun ty => Lib.run_next_end_at wr w1.heap.size s _ ty hit hp
      have HG := Lib.hid hg
      have HC := Lib.hid hc
      clear hp hg hc
      go_wp2
      go_ret
      refine ⟨hbw, .inl ⟨⟨by simpa using hk, by simpa using HG.out⟩, rfl, by simpa using HC.out⟩⟩
    | cons r ts =>
      have hr : OkRune r := HU.out.1 r (by simp)
      have he1 : s.data.toList = ps.flatMap encR ++ (encR r ++ ts.flatMap encR) := by rw [HU.out.2]; simp
      have hdec := decode_at_enc s _ _ r hr he1
      have hlen := (encR_length r).1
      have hp : (ps.flatMap encR).length < s.size := by rw [Lib.size_eq, he1]; simp; omega
      have hsz : (ps.flatMap encR).length + (encR r).length ≤ s.size := by rw [Lib.size_eq, he1]; simp
      have hnx0 : ∀ ty, (Instr.next (.pointer (some ⟨w1.heap.size, 0, none⟩)) true ty).run Tryd.prog wr = _ := fun ty => Lib.run_next_any_at wr w1.heap.size s _ ty hit hp
      rw [hdec] at hnx0
      have hit2 := Lib.iterAt_heap wr w1.heap.size s _ ((ps.flatMap encR).length + (encR r).length) hit
      have hbw2 := Lib.below_iterAt hbw (k := w1.heap.size) (by omega) s ((ps.flatMap encR).length + (encR r).length)
      have hc2 := (cell_iterAt wr w1.heap.size b 0 s ((ps.flatMap encR).length + (encR r).length) hbk).trans hc
      have hf2 := (frozen_iterAt wr w1.heap.size b 0 s ((ps.flatMap encR).length + (encR r).length) hbk).trans hf
      have hle := okRune_le hr
      have hm0 : wr.iterPos w1.heap.size = (ps.flatMap encR).length := by simp only [World.iterPos, hit]
      clear hdec he1
      generalize hpo : (ps.flatMap encR).length = po at *
      have HPO := Lib.hid hpo
      have HM := Lib.hid hm0
      have HG := Lib.hid hg
      clear hpo hm0 hg hc hf
      generalize wr.iterAt w1.heap.size s (po + (encR r).length) = w2 at *
      by_cases hgood : ps.length + 1 ≤ 24 ∧ 32 ≤ r ∧ r ≠ 127
      · obtain ⟨g1, g2, g3⟩ := hgood
        go_wp2_with fail
        refine (chk_yes r ps.length b w2 hc2 hf2 g1 g2 g3 hle).mono ?_
        rintro e w3 ⟨rfl, rfl⟩
        go_wp2
        go_roundw
        case rel =>
          refine ⟨ps ++ [r], ts, by simp, by simpa using g1, ?_, hbw2.setCell (p := ⟨b, 0, none⟩) (Nat.le_refl _) _, ?_, ?_, ?_⟩
          · intro x hx
            rcases List.mem_append.1 hx with h | h
            · exact HG.out x h
            · obtain rfl : x = r := by simpa using h
              exact ⟨g2, g3⟩
          · rw [Below.heap_setCell w2 ⟨b, 0, none⟩ _ w1.heap.size (Ne.symm hbk), hit2, ← HPO.out]; simp
          · go_simp
          · go_simp
        case measure =>
          have hh : (w2.setCell ⟨b, 0, none⟩ (.int .i64 (ps.length + 1))).iterPos w1.heap.size = po + (encR r).length := by
            have hx : (w2.setCell ⟨b, 0, none⟩ (.int .i64 (ps.length + 1))).heap[w1.heap.size]? = _ := (Below.heap_setCell w2 ⟨b, 0, none⟩ _ w1.heap.size (Ne.symm hbk)).trans hit2
            simp only [World.iterPos, hx]
          rw [hh, HM.out]
          omega
      · go_wp2_with fail
        refine (chk_no r ps.length b w2 hc2 hf2 (by omega) (by omega) hle).mono ?_
        rintro e w3 ⟨rfl, rfl⟩
        go_wp2
        go_ret
        refine ⟨hbw2.setCell (p := ⟨b, 0, none⟩) (Nat.le_refl _) _, .inr ⟨fun h => hgood ?_, rfl⟩⟩
        have h1 := h.1
        have h2 := h.2 r (by simp)
        simp at h1
        exact ⟨by omega, h2.1, h2.2⟩

set_option maxRecDepth 100000 in
set_option maxHeartbeats 400000 in
/-- every at a text that is not UTF-8, whatever is asked. -/
theorem every_bad (s : ByteArray) (q : Value) (w : World) (hs : s.size ≤ 140737488351232) (he : Env w) (hv : Lib.validD s.data.toList = false) :
    Calls Tryd.prog 32 #[.string s, q] w fun e w' => e = .returned (.bool false) ∧ Below w.heap.size w w' := by
  have HV := Lib.hid hv
  clear hv
  go_enter Tryd.func32, Tryd.ntmps32
  go_wp2_with fail
  refine (valid_no s _ hs he HV.out).mono ?_
  rintro e w1 ⟨rfl, hb1⟩
  go_wp2
  go_ret
  exact ⟨rfl, hb1⟩

/-! ### Check -/
set_option maxRecDepth 100000 in
set_option maxHeartbeats 400000 in
theorem check_tag (s : ByteArray) (rs : List Nat) (w : World) (he : Env w) (h : Tag s.data.toList rs) :
    Calls Tryd.prog 18 #[.string s] w fun e w' => e = .returned (.int .i64 0) ∧ Below w.heap.size w w' := by
  have hs : s.size ≤ 140737488351232 := by rw [Lib.size_eq]; have := (tag_len h).2; omega
  have HT := Lib.hid h
  have hmf : ∀ (fn : Fn) (first cap : Array Value) (w : World), (Instr.makeFunc fn first cap).run Tryd.prog w = .ok (.func fn first cap) w := fun _ _ _ _ => rfl
  have hp := h.pos
  have hz : ((rs.length : Int) == 0) = false := beq_eq_false_iff_ne.2 (by omega)
  clear h
  go_enter Tryd.func18, Tryd.ntmps18
  go_wp2_with fail
  refine (every_chk s rs w.heap.size _ hs (he.alloc _) HT.out.utf (by go_simp) (by go_simp)).mono ?_
  rintro e w1 ⟨hb1, ⟨_, rfl, hc⟩ | ⟨hn, _⟩⟩
  · go_wp2
    go_ret
    exact ⟨rfl, ((Below.refl _ _).alloc (Nat.le_refl _) _).trans hb1⟩
  · exact absurd ⟨HT.out.le, HT.out.good⟩ hn
theorem no_runes {l : List UInt8} {rs : List Nat} (hu : Utf l rs) (h : NoTag l) (hg : rs.length ≤ 24 ∧ ∀ r ∈ rs, GoodR r) : rs = [] := by
  cases rs with
  | nil => rfl
  | cons r rs => exact absurd ⟨hu, by simp, hg.1, hg.2⟩ (h _)
set_option maxRecDepth 100000 in
set_option maxHeartbeats 400000 in
theorem check_no (s : ByteArray) (w : World) (he : Env w) (hs : s.size ≤ 140737488351232) (h : NoTag s.data.toList) :
    Calls Tryd.prog 18 #[.string s] w fun e w' => e = .returned (.int .i64 16) ∧ Below w.heap.size w w' := by
  have hmf : ∀ (fn : Fn) (first cap : Array Value) (w : World), (Instr.makeFunc fn first cap).run Tryd.prog w = .ok (.func fn first cap) w := fun _ _ _ _ => rfl
  rcases utf_dec s.data.toList with ⟨rs, hu⟩ | ⟨hv, _⟩
  · have HN := Lib.hid h
    have HU := Lib.hid hu
    clear h hu
    go_enter Tryd.func18, Tryd.ntmps18
    go_wp2_with fail
    refine (every_chk s rs w.heap.size _ hs (he.alloc _) HU.out (by go_simp) (by go_simp)).mono ?_
    rintro e w1 ⟨hb1, ⟨hg, rfl, hc⟩ | ⟨hn, rfl⟩⟩
    · obtain rfl := no_runes HU.out HN.out hg
      clear hg
      go_wp2
      go_ret
      exact ⟨rfl, ((Below.refl _ _).alloc (Nat.le_refl _) _).trans hb1⟩
    · clear hn
      go_wp2
      go_ret
      exact ⟨rfl, ((Below.refl _ _).alloc (Nat.le_refl _) _).trans hb1⟩
  · have HV := Lib.hid hv
    clear hv h
    go_enter Tryd.func18, Tryd.ntmps18
    go_wp2_with fail
    refine (every_bad s _ _ hs (he.alloc _) HV.out).mono ?_
    rintro e w1 ⟨rfl, hb1⟩
    go_wp2
    go_ret
    exact ⟨rfl, ((Below.refl _ _).alloc (Nat.le_refl _) _).trans (hb1.mono (by simp))⟩
end Go.Proofs.YtmgkdklpahggjaaDoor
