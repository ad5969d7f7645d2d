/- A list apart from a ledger; attempts that a ledger takes one after another; the examples' values. -/
import Derived.Test.YtenggngcigkakaaGreatDoorHj
import Derived.Test.YtenggngcigkakaaGreatDoorHw
namespace Go.Proofs.YtenggngcigkakaaGreatDoor
open Go.RowKit

/-! ### apart from a ledger -/
/-- The list lies in a row that the ledger of book bk does not use. -/
structure Far (w : World) (bk : Nat) (v : Value) (l : List Att) : Prop where
  rd : RdA w v l
  apart : ∀ g off n c, v = .slice (some ⟨g, off, none⟩) n c → ¬ Foot w bk g ∧ g < w.heap.size
section
variable {w w' : World} {b bk lo base : Nat} {v : Value} {l L : List Att}
theorem Far.add (h : Far w bk v l) (hk : Kept (Foot w bk) w w') (hf : ∀ g, Foot w' bk g → Foot w bk g ∨ w.heap.size ≤ g) : Far w' bk v l :=
  ⟨h.rd.same hk.size fun g off c n e i => World.cell?_of_block (a := ⟨g, i, none⟩) (hk.block g (h.apart g off n c e).2 (h.apart g off n c e).1),
   fun g off n c e => by
    obtain ⟨h1, h2⟩ := h.apart g off n c e
    exact ⟨fun hg => by rcases hf g hg with e | e; exact h1 e; omega, Nat.lt_of_lt_of_le h2 hk.size⟩⟩
theorem Far.below (h : Far w bk v l) (hl : LedW w b bk lo L) (hb : Below w.heap.size w w') : Far w' bk v l :=
  ⟨h.rd.below hb, fun g off n c e => by
    obtain ⟨h1, h2⟩ := h.apart g off n c e
    exact ⟨fun hg => h1 (((hl.below hb).2 g).1 hg), Nat.lt_of_lt_of_le h2 hb.size⟩⟩
theorem Far.of_own (h : w.ownsRow base 32 6 v l.length (cls l)) (hf : ∀ g, Foot w bk g → g < base) : Far w bk v l :=
  ⟨RdA.of_own h, fun g off n c e => by
    subst e
    rcases h.2 with ⟨e, _⟩ | ⟨g', cap, cur, e, h1, h2, _⟩
    · cases e
    · injection e with e1 e2 e3
      injection e1 with e1
      injection e1 with e1
      subst e1
      exact ⟨fun hg => absurd (hf g hg) (by omega), (show Bk w g 32 cur from h2).lt⟩⟩
end

/-! ### one after another -/
/-- A ledger takes them one after another. -/
structure Steady (l : List Att) : Prop where
  ok : AllOk l
  up : l.Pairwise (fun a b => a.t ≤ b.t)
  len : l.length ≤ 10000
theorem Steady.add {l : List Att} (h : Steady l) {j : Nat} (hj : j < l.length) : addE (l.take j) l[j] = 0 := by
  refine addE_ok (h.ok _ (List.getElem_mem hj)) ?_ (by rw [List.length_take]; have := h.len; omega)
  rintro ⟨z, hz, hlt⟩
  have hm : z ∈ l.take j := List.mem_of_getLast? hz
  obtain ⟨i, hi, rfl⟩ := List.getElem_of_mem hm
  rw [List.length_take] at hi
  rw [List.getElem_take] at hlt
  have := List.pairwise_iff_getElem.1 h.up i j (by omega) hj (by omega)
  omega
theorem Steady.addL {l : List Att} (h : Steady l) {j : Nat} (hj : j < l.length) : addL (l.take j) l[j] = l.take (j + 1) := by
  rw [addL_ok (h.add hj), List.take_succ_eq_append_getElem hj]

/-! ### the examples -/
def ex1 : Att := ⟨5, 1, 3, 1, 1, 2⟩
def ex2 : Att := ⟨9, 1, 3, 1, 1, 1⟩
def ex3 : Att := ⟨9, 3, 0, 2, 3, 3⟩
theorem ex1_ok : ex1.Ok := by constructor <;> decide
theorem ex2_ok : ex2.Ok := by constructor <;> decide
theorem ex3_ok : ex3.Ok := by constructor <;> decide
theorem exX_ok : AllOk [ex1, ex2, ex3] := fun a ha => by
  simp only [List.mem_cons, List.not_mem_nil, or_false] at ha
  rcases ha with rfl | rfl | rfl
  · exact ex1_ok
  · exact ex2_ok
  · exact ex3_ok
theorem exX_steady : Steady [ex1, ex2, ex3] := ⟨exX_ok, by simp [ex1, ex2, ex3], by decide⟩
theorem file_ok (w : World) : Calls Tryz.prog 18 #[] w fun e w' => e = .returned (okey 1 3 1) ∧ Below w.heap.size w w' := by
  have HB := Lib.hid (bel_new w (.cells #[.int .i64 1, .int .i64 3, .int .u32 1] 25))
  have hb := Bk.new w 25 #[.int .i64 1, .int .i64 3, .int .u32 1]
  have d0 := hb.cell 0
  have d1 := hb.cell 1
  have d2 := hb.cell 2
  clear hb
  go_enter Tryz.func18, Tryz.ntmps18
  go_wp2
  refine bodyPost_ret (v := .agg #[.int .i64 1, .int .i64 3, .int .u32 1]) ?_ rfl ⟨rfl, HB.out⟩
  simp [results, Tryz.results18, go_sem]
theorem lease_ok (w : World) : Calls Tryz.prog 48 #[] w fun e w' => e = .returned (okey 3 0 2) ∧ Below w.heap.size w w' := by
  have HB := Lib.hid (bel_new w (.cells #[.int .i64 3, .int .i64 0, .int .u32 2] 25))
  go_enter Tryz.func48, Tryz.ntmps48
  go_wp2
  refine bodyPost_ret (v := .agg #[.int .i64 3, .int .i64 0, .int .u32 2]) ?_ rfl ⟨rfl, HB.out⟩
  simp [results, Tryz.results48, go_sem]
theorem three_ok (w : World) : Calls Tryz.prog 49 #[] w (NewA [ex1, ex2, ex3] w) := by
  go_enter Tryz.func49, Tryz.ntmps49
  go_wp2_with fail
  refine (file_ok _).mono ?_
  rintro e w1 ⟨rfl, hb1⟩
  have HB1 := Lib.hid hb1
  clear hb1
  unfold okey
  go_wp2_with fail
  refine (file_ok _).mono ?_
  rintro e w2 ⟨rfl, hb2⟩
  have HB2 := Lib.hid (bel2 HB1.out hb2)
  clear hb2
  unfold okey
  go_wp2_with fail
  refine (lease_ok _).mono ?_
  rintro e w3 ⟨rfl, hb3⟩
  have HB3 := Lib.hid (bel2 HB2.out hb3)
  clear hb3
  unfold okey
  go_wp2
  go_ret
  refine ⟨_, rfl, ?_, bel2 HB3.out (bel_new _ _)⟩
  exact World.ownsRow_lit w3 (cls [ex1, ex2, ex3]).toArray 3 HB3.out.size (by decide) rfl
end Go.Proofs.YtenggngcigkakaaGreatDoor
