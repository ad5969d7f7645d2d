/- The contracts of tags.Width and tags.Cut. -/
import Derived.Test.YtmgkdklpahggjaaDoorCc
namespace Go.Proofs.YtmgkdklpahggjaaDoor
open Go.RowKit

theorem fit_stop : ∀ (ps : List Nat) (r : Nat) (ts : List Nat) (w : Nat), wids ps ≤ w → w < wids ps + wid r → fit (ps ++ r :: ts) w = ps
  | [], r, ts, w, _, h => by
    have h0 : wids [] = 0 := rfl
    rw [List.nil_append, fit, if_neg (by omega)]
  | p :: ps, r, ts, w, h1, h2 => by
    rw [wids_cons] at h1 h2
    rw [List.cons_append, fit, if_pos (by omega), fit_stop ps r ts _ (by omega) (by omega)]

set_option maxRecDepth 100000 in
set_option maxHeartbeats 400000 in
theorem places_any (r : Nat) (w : World) (hr : r ≤ 1114111) :
    Calls Tryd.prog 29 #[.int .i32 r] w fun e w' => e = .returned (.int .i64 (wid r)) ∧ w = w' := by
  unfold wid
  by_cases h : r < 4352
  · rw [if_pos h]
    go_enter Tryd.func29, Tryd.ntmps29
    go_wp2
    go_ret
    exact ⟨rfl, rfl⟩
  · rw [if_neg h]
    go_enter Tryd.func29, Tryd.ntmps29
    go_wp2
    go_ret
    exact ⟨rfl, rfl⟩

def WdRel (s : ByteArray) (rs : List Nat) (n k1 : Nat) (w : World) (v : Value) (wr : World) : Prop :=
  ∃ (ps ts : List Nat), rs = ps ++ ts ∧ v = .int .i64 (wids ps) ∧ Below n w wr ∧ wr.heap[k1]? = some (.stringIter s (ps.flatMap encR).length)

set_option maxRecDepth 100000 in
set_option maxHeartbeats 1000000 in
theorem width_tag (s : ByteArray) (rs : List Nat) (w : World) (he : Env w) (h : Tag s.data.toList rs) :
    Calls Tryd.prog 16 #[.string s] w fun e w' => e = .returned (.tuple #[.int .i64 (wids rs), .int .i64 0]) ∧ Below w.heap.size w w' := by
  have hs : s.size ≤ 140737488351232 := by rw [Lib.size_eq]; have := (tag_len h).2; omega
  have hw48 : wids rs ≤ 48 := by have := (wids_le rs).2; have := h.le; omega
  have HU := Lib.hid h.utf
  have HT := Lib.hid h
  clear h
  go_enter Tryd.func16, Tryd.ntmps16
  go_wp2_with fail
  refine (check_tag s rs _ he HT.out).mono ?_
  rintro e w1 ⟨rfl, hb1⟩
  have hs1 : w.heap.size ≤ w1.heap.size := hb1.size
  go_wp2_with fail
  have hit0 : (w1.iter s 0).heap[w1.heap.size]? = some (.stringIter s 0) := World.iter_heap w1 s 0
  have hbi : Below w.heap.size w (w1.iter s 0) := hb1.trans ((Below.refl w.heap.size w1).alloc (by omega) _)
  go_loopw [5] (fun v wr => WdRel s rs w.heap.size w1.heap.size w v wr) (fun _ wr => s.size - wr.iterPos w1.heap.size)
  case atStart => exact ⟨[], rs, rfl, rfl, hbi, by simpa using hit0⟩
  case round =>
    clear hit0 hbi
    obtain ⟨ps, ts, rfl, rfl, hbw, hit⟩ := hrel
    cases ts with
    | nil =>
      have hp : ¬ (ps.flatMap encR).length < s.size := by rw [Lib.size_eq, HU.out.2]; simp
      have hnx : ∀ ty, (Instr.next (.pointer (some ⟨w1.heap.size, 0, none⟩)) true ty).run Tryd.prog wr = _ := fun ty => Lib.run_next_end_at wr w1.heap.size s _ ty hit hp
      clear hp
      go_wp2
      go_ret2
      refine ⟨by rw [List.append_nil]; rfl, hbw⟩
    | cons r ts =>
      have hr : OkRune r := HU.out.1 r (by simp)
      have he1 : s.data.toList = ps.flatMap encR ++ (encR r ++ ts.flatMap encR) := by rw [HU.out.2]; simp
      have hdec := decode_at_enc s _ _ r hr he1
      have hlen := (encR_length r).1
      have hp : (ps.flatMap encR).length < s.size := by rw [Lib.size_eq, he1]; simp; omega
      have hsz : (ps.flatMap encR).length + (encR r).length ≤ s.size := by rw [Lib.size_eq, he1]; simp
      have hnx0 : ∀ ty, (Instr.next (.pointer (some ⟨w1.heap.size, 0, none⟩)) true ty).run Tryd.prog wr = _ := fun ty => Lib.run_next_any_at wr w1.heap.size s _ ty hit hp
      rw [hdec] at hnx0
      have hit2 := Lib.iterAt_heap wr w1.heap.size s _ ((ps.flatMap encR).length + (encR r).length) hit
      have hbw2 := Lib.below_iterAt hbw (k := w1.heap.size) (by omega) s ((ps.flatMap encR).length + (encR r).length)
      have hm0 : wr.iterPos w1.heap.size = (ps.flatMap encR).length := by simp only [World.iterPos, hit]
      have hle := okRune_le hr
      have hws : wids ps + wid r ≤ 48 := by rw [wids_append, wids_cons] at hw48; omega
      clear hdec he1
      generalize hpo : (ps.flatMap encR).length = po at *
      have HPO := Lib.hid hpo
      have HM := Lib.hid hm0
      clear hpo hm0
      generalize wr.iterAt w1.heap.size s (po + (encR r).length) = w2 at *
      go_wp2_with fail
      refine (places_any r w2 hle).mono ?_
      rintro e w3 ⟨rfl, rfl⟩
      go_wp2
      go_roundw
      case rel =>
        refine ⟨ps ++ [r], ts, by simp, ?_, hbw2, ?_⟩
        · rw [wids_append, wids_cons]; simp [wids]
        · rw [hit2, ← HPO.out]; simp
      case measure =>
        have hh : w2.iterPos w1.heap.size = po + (encR r).length := by simp only [World.iterPos, hit2]
        rw [hh, HM.out]
        omega
set_option maxRecDepth 100000 in
set_option maxHeartbeats 400000 in
theorem width_no (s : ByteArray) (w : World) (he : Env w) (hs : s.size ≤ 140737488351232) (h : NoTag s.data.toList) :
    Calls Tryd.prog 16 #[.string s] w fun e w' => e = .returned (.tuple #[.int .i64 0, .int .i64 16]) ∧ Below w.heap.size w w' := by
  have HN := Lib.hid h
  clear h
  go_enter Tryd.func16, Tryd.ntmps16
  go_wp2_with fail
  refine (check_no s _ he hs HN.out).mono ?_
  rintro e w1 ⟨rfl, hb1⟩
  go_wp2
  go_ret2
  exact ⟨rfl, hb1⟩

/-! ### Cut -/
set_option maxRecDepth 100000 in
set_option maxHeartbeats 400000 in
theorem clone_any (s : ByteArray) (w : World) (hs : s.size ≤ 140737488351232) :
    Calls Tryd.prog 36 #[.string s] w fun e w' => e = .returned (.string s) ∧ Below w.heap.size w w' := by
  go_enter Tryd.func36, Tryd.ntmps36
  go_wp2_with fail
  refine (Tryd.stringslite_Clone s _ (by omega)).mono ?_
  rintro e w1 ⟨rfl, hb1⟩
  go_wp2
  go_ret
  exact ⟨rfl, hb1⟩

def CtRel (s : ByteArray) (rs : List Nat) (wd n k1 : Nat) (w : World) (u v : Value) (wr : World) : Prop :=
  ∃ (ps ts : List Nat) (lf : Nat), rs = ps ++ ts ∧ u = .int .i64 s.size ∧ v = .int .i64 lf ∧ Hid (lf + wids ps = wd) ∧ lf ≤ wd ∧ Below n w wr ∧ wr.heap[k1]? = some (.stringIter s (ps.flatMap encR).length)

/-- What Cut keeps. -/
def cutB (s : ByteArray) (rs : List Nat) (wd : Nat) : ByteArray := s.extract 0 ((fit rs wd).flatMap encR).length

set_option maxRecDepth 100000 in
set_option maxHeartbeats 1000000 in
theorem cut_tag (s : ByteArray) (rs : List Nat) (wd : Nat) (w : World) (he : Env w) (h : Tag s.data.toList rs) (hwd : wd ≤ 9223372036854775807) :
    Calls Tryd.prog 24 #[.string s, .int .i64 wd] w fun e w' => e = .returned (.tuple #[.string (cutB s rs wd), .int .i64 0]) ∧ Below w.heap.size w w' := by
  have hs : s.size ≤ 140737488351232 := by rw [Lib.size_eq]; have := (tag_len h).2; omega
  have HU := Lib.hid h.utf
  have HT := Lib.hid h
  clear h
  generalize hres : cutB s rs wd = res
  have HR := Lib.hid hres
  clear hres
  go_enter Tryd.func24, Tryd.ntmps24
  go_wp2_with fail
  refine (check_tag s rs _ he HT.out).mono ?_
  rintro e w1 ⟨rfl, hb1⟩
  have hs1 : w.heap.size ≤ w1.heap.size := hb1.size
  go_wp2_with fail
  have hit0 : (w1.iter s 0).heap[w1.heap.size]? = some (.stringIter s 0) := World.iter_heap w1 s 0
  have hbi : Below w.heap.size w (w1.iter s 0) := hb1.trans ((Below.refl w.heap.size w1).alloc (by omega) _)
  go_loopw [7, 8] (fun u v wr => CtRel s rs wd w.heap.size w1.heap.size w u v wr) (fun _ _ wr => s.size - wr.iterPos w1.heap.size)
  case atStart => exact ⟨[], rs, wd, rfl, rfl, rfl, by unfold Hid; simp [wids], Nat.le_refl _, hbi, by simpa using hit0⟩
  case round =>
    clear hit0 hbi
    obtain ⟨ps, ts, lf, rfl, rfl, rfl, HL, hlw, hbw, hit⟩ := hrel
    cases ts with
    | nil =>
      have hpe : (ps.flatMap encR).length = s.size := by rw [Lib.size_eq, HU.out.2]; simp
      have hp : ¬ (ps.flatMap encR).length < s.size := by omega
      have hnx : ∀ ty, (Instr.next (.pointer (some ⟨w1.heap.size, 0, none⟩)) true ty).run Tryd.prog wr = _ := fun ty => Lib.run_next_end_at wr w1.heap.size s _ ty hit hp
      have HPE := Lib.hid hpe
      clear hp hpe
      go_wp2_with fail
      refine (clone_any _ _ (by first | omega | (simp [ByteArray.size_extract]; omega))).mono ?_
      rintro e w3 ⟨rfl, hb3⟩
      go_wp2
      go_ret2
      refine ⟨?_, hbw.trans (hb3.mono hbw.size)⟩
      rw [← HR.out, cutB, List.append_nil, fit_all ps wd (by have := HL.out; omega), HPE.out]
      first | rfl | simp
    | cons r ts =>
      have hr : OkRune r := HU.out.1 r (by simp)
      have he1 : s.data.toList = ps.flatMap encR ++ (encR r ++ ts.flatMap encR) := by rw [HU.out.2]; simp
      have hdec := decode_at_enc s _ _ r hr he1
      have hlen := (encR_length r).1
      have hp : (ps.flatMap encR).length < s.size := by rw [Lib.size_eq, he1]; simp; omega
      have hsz : (ps.flatMap encR).length + (encR r).length ≤ s.size := by rw [Lib.size_eq, he1]; simp
      have hnx0 : ∀ ty, (Instr.next (.pointer (some ⟨w1.heap.size, 0, none⟩)) true ty).run Tryd.prog wr = _ := fun ty => Lib.run_next_any_at wr w1.heap.size s _ ty hit hp
      rw [hdec] at hnx0
      have hit2 := Lib.iterAt_heap wr w1.heap.size s _ ((ps.flatMap encR).length + (encR r).length) hit
      have hbw2 := Lib.below_iterAt hbw (k := w1.heap.size) (by omega) s ((ps.flatMap encR).length + (encR r).length)
      have hm0 : wr.iterPos w1.heap.size = (ps.flatMap encR).length := by simp only [World.iterPos, hit]
      have hle := okRune_le hr
      have h12 := wid_12 r
      clear hdec he1
      generalize hpo : (ps.flatMap encR).length = po at *
      have HPO := Lib.hid hpo
      have HM := Lib.hid hm0
      clear hpo hm0
      generalize wr.iterAt w1.heap.size s (po + (encR r).length) = w2 at *
      generalize hwr : wid r = x at *
      have HW := Lib.hid hwr
      by_cases hfit : x ≤ lf
      · go_wp2_with fail
        refine (places_any r w2 hle).mono ?_
        rintro e w3 ⟨rfl, rfl⟩
        rw [HW.out]
        clear hwr
        go_wp2
        go_roundw
        case rel =>
          refine ⟨ps ++ [r], ts, lf - x, by simp, rfl, by go_num, ?_, by omega, hbw2, ?_⟩
          · have := HL.out; have := HW.out; unfold Hid; rw [wids_append, wids_cons, this]; simp [wids] at *; omega
          · rw [hit2, ← HPO.out]; simp
        case measure =>
          have hh : w2.iterPos w1.heap.size = po + (encR r).length := by simp only [World.iterPos, hit2]
          rw [hh, HM.out]
          omega
      · go_wp2_with fail
        refine (places_any r w2 hle).mono ?_
        rintro e w3 ⟨rfl, rfl⟩
        rw [HW.out]
        clear hwr
        go_wp2_with fail
        refine (clone_any _ _ (by first | omega | (simp [ByteArray.size_extract]; omega))).mono ?_
        rintro e w3 ⟨rfl, hb3⟩
        go_wp2
        go_ret2
        refine ⟨?_, hbw2.trans (hb3.mono hbw2.size)⟩
        rw [← HR.out, cutB, fit_stop ps r ts wd (by have := HL.out; omega) (by have := HL.out; rw [HW.out]; omega), HPO.out]
        first | rfl | simp
end Go.Proofs.YtmgkdklpahggjaaDoor
