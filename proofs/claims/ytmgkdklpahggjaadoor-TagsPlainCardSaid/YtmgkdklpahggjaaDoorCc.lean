/- The contracts of tags.Plain and of its closure. -/
import Derived.Test.YtmgkdklpahggjaaDoorCb
namespace Go.Proofs.YtmgkdklpahggjaaDoor
open Go.RowKit

def PlainR (r : Nat) : Prop := (97 ≤ r ∧ r ≤ 122) ∨ (48 ≤ r ∧ r ≤ 57) ∨ r = 45 ∨ r = 46 ∨ r = 95
instance (r : Nat) : Decidable (PlainR r) := by unfold PlainR; infer_instance

set_option maxRecDepth 100000 in
set_option maxHeartbeats 400000 in
theorem pl_yes (r : Nat) (w : World) (h : PlainR r) :
    Calls Tryd.prog 34 #[.int .i32 r] w fun e w' => e = .returned (.bool true) ∧ w = w' := by
  unfold PlainR at h
  rcases h with ⟨h1, h2⟩ | ⟨h1, h2⟩ | rfl | rfl | rfl
  · go_enter Tryd.func34, Tryd.ntmps34
    go_wp2
    go_ret
    exact ⟨rfl, rfl⟩
  · have h3 : ¬ 97 ≤ r := by omega
    go_enter Tryd.func34, Tryd.ntmps34
    go_wp2
    go_ret
    exact ⟨rfl, rfl⟩
  all_goals
    go_enter Tryd.func34, Tryd.ntmps34
    go_wp2
    go_ret
    exact ⟨rfl, rfl⟩
set_option maxRecDepth 100000 in
set_option maxHeartbeats 1000000 in
theorem pl_no (r : Nat) (w : World) (h : ¬ PlainR r) :
    Calls Tryd.prog 34 #[.int .i32 r] w fun e w' => e = .returned (.bool false) ∧ w = w' := by
  unfold PlainR at h
  have e1 : ((r : Int) == 45) = false := beq_eq_false_iff_ne.2 (by omega)
  have e2 : ((r : Int) == 46) = false := beq_eq_false_iff_ne.2 (by omega)
  have e3 : ((r : Int) == 95) = false := beq_eq_false_iff_ne.2 (by omega)
  by_cases h1 : 97 ≤ r
  · have h2 : decide ((r : Int) ≤ 122) = false := decide_eq_false (by omega)
    have h3 : 48 ≤ r := by omega
    have h4 : decide ((r : Int) ≤ 57) = false := decide_eq_false (by omega)
    clear h
    go_enter Tryd.func34, Tryd.ntmps34
    go_wp2
    go_ret
    exact ⟨rfl, rfl⟩
  by_cases h3 : 48 ≤ r
  · have h4 : decide ((r : Int) ≤ 57) = false := decide_eq_false (by omega)
    clear h
    go_enter Tryd.func34, Tryd.ntmps34
    go_wp2
    go_ret
    exact ⟨rfl, rfl⟩
  · clear h
    go_enter Tryd.func34, Tryd.ntmps34
    go_wp2
    go_ret
    exact ⟨rfl, rfl⟩

def EpPost (rs : List Nat) (w : World) (e : Ending) (w' : World) : Prop :=
  e = .returned (.bool (decide (∀ r ∈ rs, PlainR r))) ∧ Below w.heap.size w w'
def EpRel (s : ByteArray) (rs : List Nat) (k1 : Nat) (w wr : World) : Prop :=
  ∃ (ps ts : List Nat), rs = ps ++ ts ∧ (∀ r ∈ ps, PlainR r) ∧ Below w.heap.size w wr ∧ wr.heap[k1]? = some (.stringIter s (ps.flatMap encR).length)

set_option maxRecDepth 100000 in
set_option maxHeartbeats 1000000 in
theorem every_plain (s : ByteArray) (rs : List Nat) (w : World) (hs : s.size ≤ 140737488351232) (he : Env w) (hu : Utf s.data.toList rs) :
    Calls Tryd.prog 32 #[.string s, .func (.func 34) #[] #[]] w (EpPost rs w) := by
  have HU := Lib.hid hu
  clear hu
  go_enter Tryd.func32, Tryd.ntmps32
  go_wp2_with fail
  refine (valid_yes s rs _ hs he HU.out).mono ?_
  rintro e w1 ⟨rfl, hb1⟩
  have hs1 : w.heap.size ≤ w1.heap.size := hb1.size
  go_wp2_with fail
  have hit0 : (w1.iter s 0).heap[w1.heap.size]? = some (.stringIter s 0) := World.iter_heap w1 s 0
  have hbi : Below w.heap.size w (w1.iter s 0) := hb1.trans ((Below.refl w.heap.size w1).alloc (by omega) _)
  go_loopw [] (fun wr => EpRel s rs w1.heap.size w wr) (fun wr => s.size - wr.iterPos w1.heap.size)
  case atStart => exact ⟨[], rs, rfl, by simp, hbi, by simpa using hit0⟩
  case round =>
    clear hit0 hbi
    obtain ⟨ps, ts, rfl, hg, hbw, hit⟩ := hrel
    cases ts with
    | nil =>
      have hp : ¬ (ps.flatMap encR).length < s.size := by rw [Lib.size_eq, HU.out.2]; simp
      have hnx : ∀ ty, (Instr.next (.pointer (some ⟨w1.heap.size, 0, none⟩)) true ty).run Tryd.prog wr = _ := fun ty => Lib.run_next_end_at wr w1.heap.size s _ ty hit hp
      have HG := Lib.hid hg
      clear hp hg
      go_wp2
      go_ret
      refine ⟨?_, hbw⟩
      rw [decide_eq_true (by simpa using HG.out)]
      rfl
    | cons r ts =>
      have hr : OkRune r := HU.out.1 r (by simp)
      have he1 : s.data.toList = ps.flatMap encR ++ (encR r ++ ts.flatMap encR) := by rw [HU.out.2]; simp
      have hdec := decode_at_enc s _ _ r hr he1
      have hlen := (encR_length r).1
      have hp : (ps.flatMap encR).length < s.size := by rw [Lib.size_eq, he1]; simp; omega
      have hsz : (ps.flatMap encR).length + (encR r).length ≤ s.size := by rw [Lib.size_eq, he1]; simp
      have hnx0 : ∀ ty, (Instr.next (.pointer (some ⟨w1.heap.size, 0, none⟩)) true ty).run Tryd.prog wr = _ := fun ty => Lib.run_next_any_at wr w1.heap.size s _ ty hit hp
      rw [hdec] at hnx0
      have hit2 := Lib.iterAt_heap wr w1.heap.size s _ ((ps.flatMap encR).length + (encR r).length) hit
      have hbw2 := Lib.below_iterAt hbw (k := w1.heap.size) (by omega) s ((ps.flatMap encR).length + (encR r).length)
      have hm0 : wr.iterPos w1.heap.size = (ps.flatMap encR).length := by simp only [World.iterPos, hit]
      clear hdec he1
      generalize hpo : (ps.flatMap encR).length = po at *
      have HPO := Lib.hid hpo
      have HM := Lib.hid hm0
      have HG := Lib.hid hg
      clear hpo hm0 hg
      generalize wr.iterAt w1.heap.size s (po + (encR r).length) = w2 at *
      by_cases hgood : PlainR r
      · have HR := Lib.hid hgood
        clear hgood
        go_wp2_with fail
        refine (pl_yes r w2 HR.out).mono ?_
        rintro e w3 ⟨rfl, rfl⟩
        go_wp2
        go_roundw
        case rel =>
          refine ⟨ps ++ [r], ts, by simp, ?_, hbw2, ?_⟩
          · intro x hx
            rcases List.mem_append.1 hx with h | h
            · exact HG.out x h
            · obtain rfl : x = r := by simpa using h
              exact HR.out
          · rw [hit2, ← HPO.out]; simp
        case measure =>
          have hh : w2.iterPos w1.heap.size = po + (encR r).length := by simp only [World.iterPos, hit2]
          rw [hh, HM.out]
          omega
      · have HR := Lib.hid hgood
        clear hgood
        go_wp2_with fail
        refine (pl_no r w2 HR.out).mono ?_
        rintro e w3 ⟨rfl, rfl⟩
        go_wp2
        go_ret
        refine ⟨?_, hbw2⟩
        rw [decide_eq_false fun h => HR.out (h r (by simp))]
        rfl

set_option maxRecDepth 100000 in
set_option maxHeartbeats 400000 in
theorem plain_tag (s : ByteArray) (rs : List Nat) (w : World) (he : Env w) (h : Tag s.data.toList rs) :
    Calls Tryd.prog 20 #[.string s] w fun e w' => e = .returned (.bool (decide (∀ r ∈ rs, PlainR r))) ∧ Below w.heap.size w w' := by
  have hs : s.size ≤ 140737488351232 := by rw [Lib.size_eq]; have := (tag_len h).2; omega
  have HT := Lib.hid h
  clear h
  generalize hd : decide (∀ r ∈ rs, PlainR r) = d
  have HD := Lib.hid hd
  clear hd
  go_enter Tryd.func20, Tryd.ntmps20
  go_wp2_with fail
  refine (check_tag s rs _ he HT.out).mono ?_
  rintro e w1 ⟨rfl, hb1⟩
  go_wp2_with fail
  refine (every_plain s rs _ hs (he.below hb1) HT.out.utf).mono ?_
  rintro e w2 ⟨he2, hb2⟩
  rw [HD.out] at he2
  subst he2
  go_wp2
  all_goals
    go_ret
    exact ⟨rfl, bel2 hb1 hb2⟩
set_option maxRecDepth 100000 in
set_option maxHeartbeats 400000 in
theorem plain_no (s : ByteArray) (w : World) (he : Env w) (hs : s.size ≤ 140737488351232) (h : NoTag s.data.toList) :
    Calls Tryd.prog 20 #[.string s] w fun e w' => e = .returned (.bool false) ∧ Below w.heap.size w w' := by
  have HN := Lib.hid h
  clear h
  go_enter Tryd.func20, Tryd.ntmps20
  go_wp2_with fail
  refine (check_no s _ he hs HN.out).mono ?_
  rintro e w1 ⟨rfl, hb1⟩
  go_wp2
  go_ret
  exact ⟨rfl, hb1⟩
end Go.Proofs.YtmgkdklpahggjaaDoor
