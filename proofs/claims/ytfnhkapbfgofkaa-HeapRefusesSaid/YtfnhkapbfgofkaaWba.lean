/- The drawn regions of HeapRefuses that call, whatever the frame. -/
import Derived.Test.YtfnhkapbfgofkaaWaa
namespace Go.Proofs.Ytfnhkapbfgofkaa
open Go.RowKit

/-- A frame with places set, one after another. -/
def frmL (l : List (Nat × Value)) (t : List Value) : List Value := l.foldl (fun t x => t.set x.1 x.2) t
theorem frmL_snoc (l : List (Nat × Value)) (x : Nat × Value) (t : List Value) : frmL (l ++ [x]) t = (frmL l t).set x.1 x.2 := by unfold frmL; rw [List.foldl_append]; rfl
def asl (m : Nat) (D : Nat → Nat) (H : Nat → Bool) (us : Nat → Value) : List (Nat × Value) := (List.range m).filterMap fun k => if H k = true then some (D k, us k) else none
theorem frm_list (m : Nat) (D : Nat → Nat) (H : Nat → Bool) (us : Nat → Value) (T : Array Value) : frm m D H us T = (frmL (asl m D H us) T.toList).toArray := by
  induction m with
  | zero => rfl
  | succ m ih =>
    have e : frm (m + 1) D H us T = if H m = true then (frm m D H us T).setIfInBounds (D m) (us m) else frm m D H us T := by
      unfold frm; rw [List.range_succ, List.foldl_append]; rfl
    have e2 : asl (m + 1) D H us = asl m D H us ++ (if H m = true then [(D m, us m)] else []) := by
      unfold asl; rw [List.range_succ, List.filterMap_append]
      congr 1
      by_cases c : H m = true
      · simp [c]
      · simp [c]
    rw [e, e2]
    by_cases c : H m = true
    · rw [if_pos c, if_pos c, ih, frmL_snoc, List.setIfInBounds_toArray]
    · rw [if_neg c, if_neg c, ih, List.append_nil]
def re26D : Nat → Nat := fun k => ([135, 136, 137, 138, 139, 140, 141, 142, 143, 134, 144, 145, 23, 0] : List Nat).getD k 0
def re26H : Nat → Bool := fun k => ([true, true, true, true, true, true, true, true, true, true, true, true, true, false] : List Bool).getD k false
def re26P : Nat → Bool := fun k => ([true, true, true, true, true, true, true, true, true, true, true, true, false, false] : List Bool).getD k false
def re26V (mb b B20 i : Nat) (bs bg : Int) (q : Rf) (E : Int) : Nat → Value := fun k => ([.pointer (some ⟨mb, 0, none⟩), .pointer (some ⟨mb, 0, none⟩), .pointer (some ⟨mb, 0, none⟩), .pointer (some ⟨b, 0, none⟩), .slice (some ⟨B20, 0, none⟩) 4 4, .int .i64 i, .pointer (some ⟨B20, i * 2, none⟩), .agg #[.int .i64 bs, .int .u32 bg], .tuple #[.agg #[.int .i64 q.1, .int .u32 q.2], .int .i64 E], .tuple #[.agg #[.int .i64 q.1, .int .u32 q.2], .int .i64 E], .agg #[.int .i64 q.1, .int .u32 q.2], .int .i64 E, undef, undef] : List Value).getD k undef
theorem re26T {T : Array Value} (hT : T.size = 335) : ∀ k, k < 14 → re26H k = true → re26D k < T.size := by rw [hT]; decide
theorem re26I : ∀ j k, j < 14 → k < 14 → re26H j = true → re26H k = true → re26D j = re26D k → j = k := fun j k hj hk => (by decide : ∀ j, j < 14 → ∀ k, k < 14 → re26H j = true → re26H k = true → re26D j = re26D k → j = k) j hj k hk
theorem re26PH : ∀ k, k < 14 → re26P k = true → re26H k = true := by decide
set_option maxHeartbeats 4000000 in
set_option maxRecDepth 100000 in
theorem re26_region {id : Nat} {Q : Exit → Act → World → Prop} {T : Array Value} {w1 : World} (mb b B20 i : Nat) (bs bg : Int) (hi : (i : Int) < 4) {S : Nat → Prop} {Z1 Z2 : World → Prop} (q : Rf) (E : Int)
    (hT : T.size = 335) (h7 : T[7]? = some (.pointer (some ⟨mb, 0, none⟩))) (h20 : T[20]? = some (.slice (some ⟨B20, 0, none⟩) 4 4)) (h21 : T[21]? = some (.int .i64 i))
    (hz0 : Z1 w1.drew) (za1 : ∀ W o, Z1 W → Z1 (W.alloc o)) (za2 : ∀ W o, Z2 W → Z2 (W.alloc o)) (zs : ∀ W c u v, w1.heap.size ≤ c → (∃ cs, Bk W c 34 cs) → Z2 W → Z2 ((W.setCell ⟨c, 0, none⟩ u).setCell ⟨c, 1, none⟩ v)) (hS : ∀ g, S g → g < w1.heap.size)
    (hc : ∀ W, Kept S w1 W → W.cell? ⟨mb, 0, none⟩ = some (.pointer (some ⟨b, 0, none⟩)) ∧ W.cell? ⟨B20, i * 2, none⟩ = some (.int .i64 bs) ∧ W.cell? ⟨B20, i * 2 + 1, none⟩ = some (.int .u32 bg))
    (hcall : ∀ W, Z1 W → Calls Try.prog 18 #[.pointer (some ⟨b, 0, none⟩), .agg #[.int .i64 bs, .int .u32 bg], .int .i64 0] W fun e w' => e = .returned (.tuple #[.agg #[.int .i64 q.1, .int .u32 q.2], .int .i64 E]) ∧ Z2 w' ∧ Kept S W w')
    (hQ : ∀ (us : Nat → Value) (B : Nat) (W : World), Kept S w1 W → Z2 W → Bk W B 34 (rfc q) → w1.heap.size ≤ B → us 12 = .pointer (some ⟨B, 0, none⟩) → Q .normal ⟨(frmL [(135, us 0), (136, us 1), (137, us 2), (138, us 3), (139, us 4), (140, us 5), (141, us 6), (142, us 7), (143, us 8), (134, us 9), (144, us 10), (145, us 11), (23, us 12), (24, .int .i64 E)] T.toList).toArray, []⟩ W) :
    (Code.region id #[{ dst := some 135, op := Op.move (Operand.tmp 7), type := 61, pos := "outright.go:208", after := #[], guard := none }, { dst := some 136, op := Op.nilCheck (Operand.tmp 135), type := 0, pos := "outright.go:208", after := #[{ on := 0, ground := Ground.data }], guard := none }, { dst := some 137, op := Op.fieldAddr 68 (Operand.tmp 136) 0, type := 0, pos := "outright.go:208", after := #[{ on := 1, ground := Ground.data }], guard := none }, { dst := some 138, op := Op.load 25 (Operand.tmp 137), type := 25, pos := "outright.go:208", after := #[{ on := 2, ground := Ground.data }], guard := none }, { dst := some 139, op := Op.move (Operand.tmp 20), type := 32, pos := "outright.go:208", after := #[], guard := none }, { dst := some 140, op := Op.move (Operand.tmp 21), type := 3, pos := "outright.go:208", after := #[], guard := none }, { dst := some 141, op := Op.indexAddr 32 (Operand.tmp 139) (Operand.tmp 140), type := 0, pos := "outright.go:208", after := #[{ on := 4, ground := Ground.data }, { on := 5, ground := Ground.data }], guard := none }, { dst := some 142, op := Op.load 34 (Operand.tmp 141), type := 34, pos := "outright.go:208", after := #[{ on := 6, ground := Ground.data }], guard := none }, { dst := some 143, op := Op.call { callee := Callee.value (Operand.func 18), args := #[Operand.tmp 138, Operand.tmp 142, Operand.const (Value.int IntKind.i64 0)], argTypes := #[25, 34, 3] }, type := 37, pos := "outright.go:208", after := #[{ on := 3, ground := Ground.data }, { on := 7, ground := Ground.data }], guard := none }, { dst := some 134, op := Op.move (Operand.tmp 143), type := 37, pos := "outright.go:208", after := #[{ on := 8, ground := Ground.data }], guard := none }, { dst := some 144, op := Op.extract (Operand.tmp 134) 0, type := 34, pos := "outright.go:208", after := #[{ on := 9, ground := Ground.data }], guard := none }, { dst := some 145, op := Op.extract (Operand.tmp 134) 1, type := 26, pos := "outright.go:208", after := #[{ on := 9, ground := Ground.data }, { on := 13, ground := Ground.gcOnly Departure.lateStores }], guard := none }, { dst := some 23, op := Op.alloc 34, type := 0, pos := "outright.go:208", after := #[], guard := none }, { dst := none, op := Op.store 34 (Operand.tmp 23) (Operand.tmp 144), type := 0, pos := "outright.go:208", after := #[{ on := 12, ground := Ground.data }, { on := 10, ground := Ground.data }, { on := 8, ground := Ground.chain }, { on := 0, ground := Ground.phase }, { on := 1, ground := Ground.phase }, { on := 2, ground := Ground.phase }, { on := 3, ground := Ground.phase }, { on := 4, ground := Ground.phase }, { on := 5, ground := Ground.phase }, { on := 6, ground := Ground.phase }, { on := 7, ground := Ground.phase }, { on := 8, ground := Ground.phase }, { on := 9, ground := Ground.phase }, { on := 10, ground := Ground.phase }, { on := 11, ground := Ground.textOnly Departure.lateStores }, { on := 12, ground := Ground.phase }], guard := none }, { dst := some 24, op := Op.assign (Operand.tmp 145), type := 26, pos := "outright.go:208", after := #[{ on := 11, ground := Ground.data }, { on := 13, ground := Ground.chain }, { on := 0, ground := Ground.phase }, { on := 1, ground := Ground.phase }, { on := 2, ground := Ground.phase }, { on := 3, ground := Ground.phase }, { on := 4, ground := Ground.phase }, { on := 5, ground := Ground.phase }, { on := 6, ground := Ground.phase }, { on := 7, ground := Ground.phase }, { on := 8, ground := Ground.phase }, { on := 9, ground := Ground.phase }, { on := 10, ground := Ground.phase }, { on := 11, ground := Ground.phase }, { on := 12, ground := Ground.phase }, { on := 13, ground := Ground.phase }], guard := none }] true).wp Try.prog Q ⟨T, []⟩ w1 := by
  refine region_last 14 (fun f a W => ∃ tm, a = ⟨tm, []⟩ ∧ JR 14 re26D re26H re26P (re26V mb b B20 i bs bg q E) T (PHc w1 S Z1 Z2 8 12 13 23 34 (rfc (0, 0)) (rfc q)) f tm W) (by kernel_rfl) rfl ?_ ?_ ?_ ?_ ?_
  · intro i o ho
    rcases i with _ | _ | _ | _ | _ | _ | _ | _ | _ | _ | _ | _ | _ | _ | _ | i
    all_goals simp at ho
    all_goals subst ho
    all_goals simp [Region.binds]
  · intro f hcl hp i hi
    have h1 := hp _ rfl
    simp [Region.binds] at h1
    rcases i with _ | _ | _ | _ | _ | _ | _ | _ | _ | _ | _ | _ | _ | _ | i
    all_goals try simp only [Nat.zero_add, Nat.reduceAdd] at hi ⊢
    all_goals first | omega | simp [h1]
  · exact ⟨T, rfl, rfl, fun _ _ => rfl, (fun k _ _ h => by cases h), (Kept.refl _ _).drew, hz0, (fun h => by cases h)⟩
  · rintro f a W ⟨tm, rfl, hJ⟩ hcl i o ho hi hfi hpre
    have k7 := (hJ.old 7 (by decide)).trans h7
    have k20 := (hJ.old 20 (by decide)).trans h20
    have k21 := (hJ.old 21 (by decide)).trans h21
    have cls := fun h => hcl 13 _ rfl h
    have clc := fun h => hcl 8 _ rfl h
    simp [Region.binds] at cls clc
    clear hcl
    rcases i with _ | _ | _ | _ | _ | _ | _ | _ | _ | _ | _ | _ | _ | _ | i
    rotate_right
    · exfalso; omega
    all_goals try simp only [Nat.zero_add, Nat.reduceAdd] at hfi ho ⊢
    all_goals simp at ho
    all_goals subst ho
    all_goals simp [Region.binds] at hpre
    all_goals clear hi
    · refine wpOp_of rfl rfl ?_
      go_simp
      exact hJ.step (i := 0) (by decide) rfl (re26T hT) re26PH re26I (fun _ => rfl) (hJ.ph.pure (by decide) (by decide) (by decide) (by decide))
    · have e135 : tm[135]? = some (.pointer (some ⟨mb, 0, none⟩)) := hJ.val 0 (by decide) rfl (by simp [hpre])
      refine wpOp_of rfl rfl ?_
      go_simp
      exact hJ.step (i := 1) (by decide) rfl (re26T hT) re26PH re26I (fun _ => rfl) (hJ.ph.pure (by decide) (by decide) (by decide) (by decide))
    · have e136 : tm[136]? = some (.pointer (some ⟨mb, 0, none⟩)) := hJ.val 1 (by decide) rfl (by simp [hpre])
      refine wpOp_of rfl rfl ?_
      go_simp
      exact hJ.step (i := 2) (by decide) rfl (re26T hT) re26PH re26I (fun _ => rfl) (hJ.ph.pure (by decide) (by decide) (by decide) (by decide))
    · have e137 : tm[137]? = some (.pointer (some ⟨mb, 0, none⟩)) := hJ.val 2 (by decide) rfl (by simp [hpre])
      obtain ⟨x0, z0, z1⟩ := hc _ hJ.ph.1
      refine wpOp_of rfl rfl ?_
      go_simp
      exact hJ.step (i := 3) (by decide) rfl (re26T hT) re26PH re26I (fun _ => rfl) (hJ.ph.pure (by decide) (by decide) (by decide) (by decide))
    · refine wpOp_of rfl rfl ?_
      go_simp
      exact hJ.step (i := 4) (by decide) rfl (re26T hT) re26PH re26I (fun _ => rfl) (hJ.ph.pure (by decide) (by decide) (by decide) (by decide))
    · refine wpOp_of rfl rfl ?_
      go_simp
      exact hJ.step (i := 5) (by decide) rfl (re26T hT) re26PH re26I (fun _ => rfl) (hJ.ph.pure (by decide) (by decide) (by decide) (by decide))
    · have e139 : tm[139]? = some (.slice (some ⟨B20, 0, none⟩) 4 4) := hJ.val 4 (by decide) rfl (by simp [hpre])
      have e140 : tm[140]? = some (.int .i64 i) := hJ.val 5 (by decide) rfl (by simp [hpre])
      refine wpOp_of rfl rfl ?_
      go_simp
      exact hJ.step (i := 6) (by decide) rfl (re26T hT) re26PH re26I (fun _ => rfl) (hJ.ph.pure (by decide) (by decide) (by decide) (by decide))
    · have e141 : tm[141]? = some (.pointer (some ⟨B20, i * 2, none⟩)) := hJ.val 6 (by decide) rfl (by simp [hpre])
      obtain ⟨x0, z0, z1⟩ := hc _ hJ.ph.1
      refine wpOp_of rfl rfl ?_
      go_simp
      exact hJ.step (i := 7) (by decide) rfl (re26T hT) re26PH re26I (fun _ => rfl) (hJ.ph.pure (by decide) (by decide) (by decide) (by decide))
    · have e138 : tm[138]? = some (.pointer (some ⟨b, 0, none⟩)) := hJ.val 3 (by decide) rfl (by simp [hpre])
      have e142 : tm[142]? = some (.agg #[.int .i64 bs, .int .u32 bg]) := hJ.val 7 (by decide) rfl (by simp [hpre])
      have hz := hJ.ph.2.1
      rw [hfi, if_neg (by decide)] at hz
      refine wpOp_of rfl rfl ?_
      go_simp
      go_at_call 18
      refine (hcall _ hz).mono ?_
      rintro e w' ⟨rfl, hz2, hk⟩
      go_simp
      exact hJ.step (i := 8) (by decide) rfl (re26T hT) re26PH re26I (fun _ => rfl) (hJ.ph.call (by decide) (by decide) (by decide) hS hz2 hk)
    · have e143 : tm[143]? = some (.tuple #[.agg #[.int .i64 q.1, .int .u32 q.2], .int .i64 E]) := hJ.val 8 (by decide) rfl (by simp [hpre])
      refine wpOp_of rfl rfl ?_
      go_simp
      exact hJ.step (i := 9) (by decide) rfl (re26T hT) re26PH re26I (fun _ => rfl) (hJ.ph.pure (by decide) (by decide) (by decide) (by decide))
    · have e134 : tm[134]? = some (.tuple #[.agg #[.int .i64 q.1, .int .u32 q.2], .int .i64 E]) := hJ.val 9 (by decide) rfl (by simp [hpre])
      refine wpOp_of rfl rfl ?_
      go_simp
      exact hJ.step (i := 10) (by decide) rfl (re26T hT) re26PH re26I (fun _ => rfl) (hJ.ph.pure (by decide) (by decide) (by decide) (by decide))
    · have e134 : tm[134]? = some (.tuple #[.agg #[.int .i64 q.1, .int .u32 q.2], .int .i64 E]) := hJ.val 9 (by decide) rfl (by simp [hpre])
      refine wpOp_of rfl rfl ?_
      go_simp
      exact hJ.step (i := 11) (by decide) rfl (re26T hT) re26PH re26I (fun _ => rfl) (hJ.ph.pure (by decide) (by decide) (by decide) (by decide))
    · refine wpOp_of rfl rfl ?_
      go_simp
      refine hJ.step (i := 12) (by decide) rfl (re26T hT) re26PH re26I (fun h => by cases h) (hJ.ph.alloc (by decide) (by decide) ?_ (by rw [hJ.sz, hT]; decide) za1 za2)
      cases c : f 13 with
      | false => rfl
      | true => exact absurd (by simp [cls c] : f 12 = true) (by rw [hfi]; decide)
    · have hfa : f 12 = true := by simp [hpre]
      have e144 : tm[144]? = some (.agg #[.int .i64 q.1, .int .u32 q.2]) := hJ.val 10 (by decide) rfl (by simp [hpre])
      obtain ⟨B, b1, b2, b3⟩ := hJ.ph.2.2 hfa
      rw [hfi] at b2
      have b2 : Bk W B 34 (rfc (0, 0)) := b2
      obtain ⟨x0, x1⟩ := b2.rf
      obtain ⟨z0, z1⟩ := b2.rfz
      have hfc : f 8 = true := by simp [hpre]
      refine wpOp_of rfl rfl ?_
      go_simp
      exact hJ.nodst (i := 13) rfl (hJ.ph.store (by decide) (by decide) hfc b1 b2 b3 zs)
  · rintro f a W ⟨tm, rfl, hJ⟩ hal
    have e145 : tm[145]? = some (.int .i64 E) := hJ.val 11 (by decide) rfl (hal 11 (by decide))
    refine wpOp_of rfl rfl ?_
    go_simp
    obtain ⟨hk, hz, hb⟩ := hJ.ph
    rw [hal 8 (by decide), if_pos rfl] at hz
    obtain ⟨B, b1, b2, b3⟩ := hb (hal 12 (by decide))
    rw [hal 13 (by decide), if_pos rfl] at b2
    have := hQ (fun k => (tm[re26D k]?).getD undef) B W hk hz b2 b3 (by show (tm[23]?).getD undef = _; rw [b1]; rfl)
    rw [show ([(135, (fun k => (tm[re26D k]?).getD undef) 0), (136, (fun k => (tm[re26D k]?).getD undef) 1), (137, (fun k => (tm[re26D k]?).getD undef) 2), (138, (fun k => (tm[re26D k]?).getD undef) 3), (139, (fun k => (tm[re26D k]?).getD undef) 4), (140, (fun k => (tm[re26D k]?).getD undef) 5), (141, (fun k => (tm[re26D k]?).getD undef) 6), (142, (fun k => (tm[re26D k]?).getD undef) 7), (143, (fun k => (tm[re26D k]?).getD undef) 8), (134, (fun k => (tm[re26D k]?).getD undef) 9), (144, (fun k => (tm[re26D k]?).getD undef) 10), (145, (fun k => (tm[re26D k]?).getD undef) 11), (23, (fun k => (tm[re26D k]?).getD undef) 12), (24, .int .i64 E)] : List (Nat × Value)) = asl 14 re26D re26H (fun k => (tm[re26D k]?).getD undef) ++ [(24, .int .i64 E)] from rfl, frmL_snoc, ← List.setIfInBounds_toArray, ← frm_list, ← hJ.frame (re26T hT) re26I] at this
    exact this
def re27D : Nat → Nat := fun k => ([147, 148, 149, 150, 151, 152, 153, 154, 155, 156, 146, 157, 158, 25, 0] : List Nat).getD k 0
def re27H : Nat → Bool := fun k => ([true, true, true, true, true, true, true, true, true, true, true, true, true, true, false] : List Bool).getD k false
def re27P : Nat → Bool := fun k => ([true, true, true, true, true, true, true, true, true, true, true, true, true, false, false] : List Bool).getD k false
def re27V (mb b B20 i : Nat) (bs bg : Int) (q : Rf) (E : Int) : Nat → Value := fun k => ([.pointer (some ⟨mb, 0, none⟩), .pointer (some ⟨mb, 0, none⟩), .pointer (some ⟨mb, 0, none⟩), .pointer (some ⟨b, 0, none⟩), .slice (some ⟨B20, 0, none⟩) 4 4, .int .i64 i, .pointer (some ⟨B20, i * 2, none⟩), .agg #[.int .i64 bs, .int .u32 bg], .agg #[.int .i64 0, .int .u32 0], .tuple #[.agg #[.int .i64 q.1, .int .u32 q.2], .int .i64 E], .tuple #[.agg #[.int .i64 q.1, .int .u32 q.2], .int .i64 E], .agg #[.int .i64 q.1, .int .u32 q.2], .int .i64 E, undef, undef] : List Value).getD k undef
theorem re27T {T : Array Value} (hT : T.size = 335) : ∀ k, k < 15 → re27H k = true → re27D k < T.size := by rw [hT]; decide
theorem re27I : ∀ j k, j < 15 → k < 15 → re27H j = true → re27H k = true → re27D j = re27D k → j = k := fun j k hj hk => (by decide : ∀ j, j < 15 → ∀ k, k < 15 → re27H j = true → re27H k = true → re27D j = re27D k → j = k) j hj k hk
theorem re27PH : ∀ k, k < 15 → re27P k = true → re27H k = true := by decide
set_option maxHeartbeats 4000000 in
set_option maxRecDepth 100000 in
theorem re27_region {id : Nat} {Q : Exit → Act → World → Prop} {T : Array Value} {w1 : World} (mb b B20 i : Nat) (bs bg : Int) (hi : (i : Int) < 4) {S : Nat → Prop} {Z1 Z2 : World → Prop} (q : Rf) (E : Int)
    (hT : T.size = 335) (h7 : T[7]? = some (.pointer (some ⟨mb, 0, none⟩))) (h20 : T[20]? = some (.slice (some ⟨B20, 0, none⟩) 4 4)) (h21 : T[21]? = some (.int .i64 i))
    (hz0 : Z1 w1.drew) (za1 : ∀ W o, Z1 W → Z1 (W.alloc o)) (za2 : ∀ W o, Z2 W → Z2 (W.alloc o)) (zs : ∀ W c u v, w1.heap.size ≤ c → (∃ cs, Bk W c 34 cs) → Z2 W → Z2 ((W.setCell ⟨c, 0, none⟩ u).setCell ⟨c, 1, none⟩ v)) (hS : ∀ g, S g → g < w1.heap.size)
    (hc : ∀ W, Kept S w1 W → W.cell? ⟨mb, 0, none⟩ = some (.pointer (some ⟨b, 0, none⟩)) ∧ W.cell? ⟨B20, i * 2, none⟩ = some (.int .i64 bs) ∧ W.cell? ⟨B20, i * 2 + 1, none⟩ = some (.int .u32 bg))
    (hcall : ∀ W, Z1 W → Calls Try.prog 20 #[.pointer (some ⟨b, 0, none⟩), .agg #[.int .i64 bs, .int .u32 bg], .int .i64 0, .agg #[.int .i64 0, .int .u32 0]] W fun e w' => e = .returned (.tuple #[.agg #[.int .i64 q.1, .int .u32 q.2], .int .i64 E]) ∧ Z2 w' ∧ Kept S W w')
    (hQ : ∀ (us : Nat → Value) (B : Nat) (W : World), Kept S w1 W → Z2 W → Bk W B 34 (rfc q) → w1.heap.size ≤ B → us 13 = .pointer (some ⟨B, 0, none⟩) → Q .normal ⟨(frmL [(147, us 0), (148, us 1), (149, us 2), (150, us 3), (151, us 4), (152, us 5), (153, us 6), (154, us 7), (155, us 8), (156, us 9), (146, us 10), (157, us 11), (158, us 12), (25, us 13), (26, .int .i64 E)] T.toList).toArray, []⟩ W) :
    (Code.region id #[{ dst := some 147, op := Op.move (Operand.tmp 7), type := 61, pos := "outright.go:209", after := #[], guard := none }, { dst := some 148, op := Op.nilCheck (Operand.tmp 147), type := 0, pos := "outright.go:209", after := #[{ on := 0, ground := Ground.data }], guard := none }, { dst := some 149, op := Op.fieldAddr 68 (Operand.tmp 148) 0, type := 0, pos := "outright.go:209", after := #[{ on := 1, ground := Ground.data }], guard := none }, { dst := some 150, op := Op.load 25 (Operand.tmp 149), type := 25, pos := "outright.go:209", after := #[{ on := 2, ground := Ground.data }], guard := none }, { dst := some 151, op := Op.move (Operand.tmp 20), type := 32, pos := "outright.go:209", after := #[], guard := none }, { dst := some 152, op := Op.move (Operand.tmp 21), type := 3, pos := "outright.go:209", after := #[], guard := none }, { dst := some 153, op := Op.indexAddr 32 (Operand.tmp 151) (Operand.tmp 152), type := 0, pos := "outright.go:209", after := #[{ on := 4, ground := Ground.data }, { on := 5, ground := Ground.data }], guard := none }, { dst := some 154, op := Op.load 34 (Operand.tmp 153), type := 34, pos := "outright.go:209", after := #[{ on := 6, ground := Ground.data }], guard := none }, { dst := some 155, op := Op.build 34 #[], type := 34, pos := "outright.go:209", after := #[], guard := none }, { dst := some 156, op := Op.call { callee := Callee.value (Operand.func 20), args := #[Operand.tmp 150, Operand.tmp 154, Operand.const (Value.int IntKind.i64 0), Operand.tmp 155], argTypes := #[25, 34, 3, 34] }, type := 37, pos := "outright.go:209", after := #[{ on := 3, ground := Ground.data }, { on := 7, ground := Ground.data }, { on := 8, ground := Ground.data }], guard := none }, { dst := some 146, op := Op.move (Operand.tmp 156), type := 37, pos := "outright.go:209", after := #[{ on := 9, ground := Ground.data }], guard := none }, { dst := some 157, op := Op.extract (Operand.tmp 146) 0, type := 34, pos := "outright.go:209", after := #[{ on := 10, ground := Ground.data }], guard := none }, { dst := some 158, op := Op.extract (Operand.tmp 146) 1, type := 26, pos := "outright.go:209", after := #[{ on := 10, ground := Ground.data }, { on := 14, ground := Ground.gcOnly Departure.lateStores }], guard := none }, { dst := some 25, op := Op.alloc 34, type := 0, pos := "outright.go:209", after := #[], guard := none }, { dst := none, op := Op.store 34 (Operand.tmp 25) (Operand.tmp 157), type := 0, pos := "outright.go:209", after := #[{ on := 13, ground := Ground.data }, { on := 11, ground := Ground.data }, { on := 9, ground := Ground.chain }, { on := 0, ground := Ground.phase }, { on := 1, ground := Ground.phase }, { on := 2, ground := Ground.phase }, { on := 3, ground := Ground.phase }, { on := 4, ground := Ground.phase }, { on := 5, ground := Ground.phase }, { on := 6, ground := Ground.phase }, { on := 7, ground := Ground.phase }, { on := 8, ground := Ground.phase }, { on := 9, ground := Ground.phase }, { on := 10, ground := Ground.phase }, { on := 11, ground := Ground.phase }, { on := 12, ground := Ground.textOnly Departure.lateStores }, { on := 13, ground := Ground.phase }], guard := none }, { dst := some 26, op := Op.assign (Operand.tmp 158), type := 26, pos := "outright.go:209", after := #[{ on := 12, ground := Ground.data }, { on := 14, ground := Ground.chain }, { on := 0, ground := Ground.phase }, { on := 1, ground := Ground.phase }, { on := 2, ground := Ground.phase }, { on := 3, ground := Ground.phase }, { on := 4, ground := Ground.phase }, { on := 5, ground := Ground.phase }, { on := 6, ground := Ground.phase }, { on := 7, ground := Ground.phase }, { on := 8, ground := Ground.phase }, { on := 9, ground := Ground.phase }, { on := 10, ground := Ground.phase }, { on := 11, ground := Ground.phase }, { on := 12, ground := Ground.phase }, { on := 13, ground := Ground.phase }, { on := 14, ground := Ground.phase }], guard := none }] true).wp Try.prog Q ⟨T, []⟩ w1 := by
  refine region_last 15 (fun f a W => ∃ tm, a = ⟨tm, []⟩ ∧ JR 15 re27D re27H re27P (re27V mb b B20 i bs bg q E) T (PHc w1 S Z1 Z2 9 13 14 25 34 (rfc (0, 0)) (rfc q)) f tm W) (by kernel_rfl) rfl ?_ ?_ ?_ ?_ ?_
  · intro i o ho
    rcases i with _ | _ | _ | _ | _ | _ | _ | _ | _ | _ | _ | _ | _ | _ | _ | _ | i
    all_goals simp at ho
    all_goals subst ho
    all_goals simp [Region.binds]
  · intro f hcl hp i hi
    have h1 := hp _ rfl
    simp [Region.binds] at h1
    rcases i with _ | _ | _ | _ | _ | _ | _ | _ | _ | _ | _ | _ | _ | _ | _ | i
    all_goals try simp only [Nat.zero_add, Nat.reduceAdd] at hi ⊢
    all_goals first | omega | simp [h1]
  · exact ⟨T, rfl, rfl, fun _ _ => rfl, (fun k _ _ h => by cases h), (Kept.refl _ _).drew, hz0, (fun h => by cases h)⟩
  · rintro f a W ⟨tm, rfl, hJ⟩ hcl i o ho hi hfi hpre
    have k7 := (hJ.old 7 (by decide)).trans h7
    have k20 := (hJ.old 20 (by decide)).trans h20
    have k21 := (hJ.old 21 (by decide)).trans h21
    have cls := fun h => hcl 14 _ rfl h
    have clc := fun h => hcl 9 _ rfl h
    simp [Region.binds] at cls clc
    clear hcl
    rcases i with _ | _ | _ | _ | _ | _ | _ | _ | _ | _ | _ | _ | _ | _ | _ | i
    rotate_right
    · exfalso; omega
    all_goals try simp only [Nat.zero_add, Nat.reduceAdd] at hfi ho ⊢
    all_goals simp at ho
    all_goals subst ho
    all_goals simp [Region.binds] at hpre
    all_goals clear hi
    · refine wpOp_of rfl rfl ?_
      go_simp
      exact hJ.step (i := 0) (by decide) rfl (re27T hT) re27PH re27I (fun _ => rfl) (hJ.ph.pure (by decide) (by decide) (by decide) (by decide))
    · have e147 : tm[147]? = some (.pointer (some ⟨mb, 0, none⟩)) := hJ.val 0 (by decide) rfl (by simp [hpre])
      refine wpOp_of rfl rfl ?_
      go_simp
      exact hJ.step (i := 1) (by decide) rfl (re27T hT) re27PH re27I (fun _ => rfl) (hJ.ph.pure (by decide) (by decide) (by decide) (by decide))
    · have e148 : tm[148]? = some (.pointer (some ⟨mb, 0, none⟩)) := hJ.val 1 (by decide) rfl (by simp [hpre])
      refine wpOp_of rfl rfl ?_
      go_simp
      exact hJ.step (i := 2) (by decide) rfl (re27T hT) re27PH re27I (fun _ => rfl) (hJ.ph.pure (by decide) (by decide) (by decide) (by decide))
    · have e149 : tm[149]? = some (.pointer (some ⟨mb, 0, none⟩)) := hJ.val 2 (by decide) rfl (by simp [hpre])
      obtain ⟨x0, z0, z1⟩ := hc _ hJ.ph.1
      refine wpOp_of rfl rfl ?_
      go_simp
      exact hJ.step (i := 3) (by decide) rfl (re27T hT) re27PH re27I (fun _ => rfl) (hJ.ph.pure (by decide) (by decide) (by decide) (by decide))
    · refine wpOp_of rfl rfl ?_
      go_simp
      exact hJ.step (i := 4) (by decide) rfl (re27T hT) re27PH re27I (fun _ => rfl) (hJ.ph.pure (by decide) (by decide) (by decide) (by decide))
    · refine wpOp_of rfl rfl ?_
      go_simp
      exact hJ.step (i := 5) (by decide) rfl (re27T hT) re27PH re27I (fun _ => rfl) (hJ.ph.pure (by decide) (by decide) (by decide) (by decide))
    · have e151 : tm[151]? = some (.slice (some ⟨B20, 0, none⟩) 4 4) := hJ.val 4 (by decide) rfl (by simp [hpre])
      have e152 : tm[152]? = some (.int .i64 i) := hJ.val 5 (by decide) rfl (by simp [hpre])
      refine wpOp_of rfl rfl ?_
      go_simp
      exact hJ.step (i := 6) (by decide) rfl (re27T hT) re27PH re27I (fun _ => rfl) (hJ.ph.pure (by decide) (by decide) (by decide) (by decide))
    · have e153 : tm[153]? = some (.pointer (some ⟨B20, i * 2, none⟩)) := hJ.val 6 (by decide) rfl (by simp [hpre])
      obtain ⟨x0, z0, z1⟩ := hc _ hJ.ph.1
      refine wpOp_of rfl rfl ?_
      go_simp
      exact hJ.step (i := 7) (by decide) rfl (re27T hT) re27PH re27I (fun _ => rfl) (hJ.ph.pure (by decide) (by decide) (by decide) (by decide))
    · refine wpOp_of rfl rfl ?_
      go_simp
      exact hJ.step (i := 8) (by decide) rfl (re27T hT) re27PH re27I (fun _ => rfl) (hJ.ph.pure (by decide) (by decide) (by decide) (by decide))
    · have e150 : tm[150]? = some (.pointer (some ⟨b, 0, none⟩)) := hJ.val 3 (by decide) rfl (by simp [hpre])
      have e154 : tm[154]? = some (.agg #[.int .i64 bs, .int .u32 bg]) := hJ.val 7 (by decide) rfl (by simp [hpre])
      have e155 : tm[155]? = some (.agg #[.int .i64 0, .int .u32 0]) := hJ.val 8 (by decide) rfl (by simp [hpre])
      have hz := hJ.ph.2.1
      rw [hfi, if_neg (by decide)] at hz
      refine wpOp_of rfl rfl ?_
      go_simp
      go_at_call 20
      refine (hcall _ hz).mono ?_
      rintro e w' ⟨rfl, hz2, hk⟩
      go_simp
      exact hJ.step (i := 9) (by decide) rfl (re27T hT) re27PH re27I (fun _ => rfl) (hJ.ph.call (by decide) (by decide) (by decide) hS hz2 hk)
    · have e156 : tm[156]? = some (.tuple #[.agg #[.int .i64 q.1, .int .u32 q.2], .int .i64 E]) := hJ.val 9 (by decide) rfl (by simp [hpre])
      refine wpOp_of rfl rfl ?_
      go_simp
      exact hJ.step (i := 10) (by decide) rfl (re27T hT) re27PH re27I (fun _ => rfl) (hJ.ph.pure (by decide) (by decide) (by decide) (by decide))
    · have e146 : tm[146]? = some (.tuple #[.agg #[.int .i64 q.1, .int .u32 q.2], .int .i64 E]) := hJ.val 10 (by decide) rfl (by simp [hpre])
      refine wpOp_of rfl rfl ?_
      go_simp
      exact hJ.step (i := 11) (by decide) rfl (re27T hT) re27PH re27I (fun _ => rfl) (hJ.ph.pure (by decide) (by decide) (by decide) (by decide))
    · have e146 : tm[146]? = some (.tuple #[.agg #[.int .i64 q.1, .int .u32 q.2], .int .i64 E]) := hJ.val 10 (by decide) rfl (by simp [hpre])
      refine wpOp_of rfl rfl ?_
      go_simp
      exact hJ.step (i := 12) (by decide) rfl (re27T hT) re27PH re27I (fun _ => rfl) (hJ.ph.pure (by decide) (by decide) (by decide) (by decide))
    · refine wpOp_of rfl rfl ?_
      go_simp
      refine hJ.step (i := 13) (by decide) rfl (re27T hT) re27PH re27I (fun h => by cases h) (hJ.ph.alloc (by decide) (by decide) ?_ (by rw [hJ.sz, hT]; decide) za1 za2)
      cases c : f 14 with
      | false => rfl
      | true => exact absurd (by simp [cls c] : f 13 = true) (by rw [hfi]; decide)
    · have hfa : f 13 = true := by simp [hpre]
      have e157 : tm[157]? = some (.agg #[.int .i64 q.1, .int .u32 q.2]) := hJ.val 11 (by decide) rfl (by simp [hpre])
      obtain ⟨B, b1, b2, b3⟩ := hJ.ph.2.2 hfa
      rw [hfi] at b2
      have b2 : Bk W B 34 (rfc (0, 0)) := b2
      obtain ⟨x0, x1⟩ := b2.rf
      obtain ⟨z0, z1⟩ := b2.rfz
      have hfc : f 9 = true := by simp [hpre]
      refine wpOp_of rfl rfl ?_
      go_simp
      exact hJ.nodst (i := 14) rfl (hJ.ph.store (by decide) (by decide) hfc b1 b2 b3 zs)
  · rintro f a W ⟨tm, rfl, hJ⟩ hal
    have e158 : tm[158]? = some (.int .i64 E) := hJ.val 12 (by decide) rfl (hal 12 (by decide))
    refine wpOp_of rfl rfl ?_
    go_simp
    obtain ⟨hk, hz, hb⟩ := hJ.ph
    rw [hal 9 (by decide), if_pos rfl] at hz
    obtain ⟨B, b1, b2, b3⟩ := hb (hal 13 (by decide))
    rw [hal 14 (by decide), if_pos rfl] at b2
    have := hQ (fun k => (tm[re27D k]?).getD undef) B W hk hz b2 b3 (by show (tm[25]?).getD undef = _; rw [b1]; rfl)
    rw [show ([(147, (fun k => (tm[re27D k]?).getD undef) 0), (148, (fun k => (tm[re27D k]?).getD undef) 1), (149, (fun k => (tm[re27D k]?).getD undef) 2), (150, (fun k => (tm[re27D k]?).getD undef) 3), (151, (fun k => (tm[re27D k]?).getD undef) 4), (152, (fun k => (tm[re27D k]?).getD undef) 5), (153, (fun k => (tm[re27D k]?).getD undef) 6), (154, (fun k => (tm[re27D k]?).getD undef) 7), (155, (fun k => (tm[re27D k]?).getD undef) 8), (156, (fun k => (tm[re27D k]?).getD undef) 9), (146, (fun k => (tm[re27D k]?).getD undef) 10), (157, (fun k => (tm[re27D k]?).getD undef) 11), (158, (fun k => (tm[re27D k]?).getD undef) 12), (25, (fun k => (tm[re27D k]?).getD undef) 13), (26, .int .i64 E)] : List (Nat × Value)) = asl 15 re27D re27H (fun k => (tm[re27D k]?).getD undef) ++ [(26, .int .i64 E)] from rfl, frmL_snoc, ← List.setIfInBounds_toArray, ← frm_list, ← hJ.frame (re27T hT) re27I] at this
    exact this
def re28D : Nat → Nat := fun k => ([160, 161, 162, 163, 164, 165, 166, 167, 168, 159, 169, 170, 27, 0] : List Nat).getD k 0
def re28H : Nat → Bool := fun k => ([true, true, true, true, true, true, true, true, true, true, true, true, true, false] : List Bool).getD k false
def re28P : Nat → Bool := fun k => ([true, true, true, true, true, true, true, true, true, true, true, true, false, false] : List Bool).getD k false
def re28V (mb b B20 i : Nat) (bs bg : Int) (q : Ob) (E : Int) : Nat → Value := fun k => ([.pointer (some ⟨mb, 0, none⟩), .pointer (some ⟨mb, 0, none⟩), .pointer (some ⟨mb, 0, none⟩), .pointer (some ⟨b, 0, none⟩), .slice (some ⟨B20, 0, none⟩) 4 4, .int .i64 i, .pointer (some ⟨B20, i * 2, none⟩), .agg #[.int .i64 bs, .int .u32 bg], .tuple #[.agg #[.int .i64 q.n, .int .i64 q.a.1, .int .u32 q.a.2, .int .i64 q.b.1, .int .u32 q.b.2, .int .i64 q.c.1, .int .u32 q.c.2, .int .i64 q.d.1, .int .u32 q.d.2, .bool q.h], .int .i64 E], .tuple #[.agg #[.int .i64 q.n, .int .i64 q.a.1, .int .u32 q.a.2, .int .i64 q.b.1, .int .u32 q.b.2, .int .i64 q.c.1, .int .u32 q.c.2, .int .i64 q.d.1, .int .u32 q.d.2, .bool q.h], .int .i64 E], .agg #[.int .i64 q.n, .int .i64 q.a.1, .int .u32 q.a.2, .int .i64 q.b.1, .int .u32 q.b.2, .int .i64 q.c.1, .int .u32 q.c.2, .int .i64 q.d.1, .int .u32 q.d.2, .bool q.h], .int .i64 E, undef, undef] : List Value).getD k undef
theorem re28T {T : Array Value} (hT : T.size = 335) : ∀ k, k < 14 → re28H k = true → re28D k < T.size := by rw [hT]; decide
theorem re28I : ∀ j k, j < 14 → k < 14 → re28H j = true → re28H k = true → re28D j = re28D k → j = k := fun j k hj hk => (by decide : ∀ j, j < 14 → ∀ k, k < 14 → re28H j = true → re28H k = true → re28D j = re28D k → j = k) j hj k hk
theorem re28PH : ∀ k, k < 14 → re28P k = true → re28H k = true := by decide
set_option maxHeartbeats 4000000 in
set_option maxRecDepth 100000 in
theorem re28_region {id : Nat} {Q : Exit → Act → World → Prop} {T : Array Value} {w1 : World} (mb b B20 i : Nat) (bs bg : Int) (hi : (i : Int) < 4) {S : Nat → Prop} {Z1 Z2 : World → Prop} (q : Ob) (E : Int)
    (hT : T.size = 335) (h7 : T[7]? = some (.pointer (some ⟨mb, 0, none⟩))) (h20 : T[20]? = some (.slice (some ⟨B20, 0, none⟩) 4 4)) (h21 : T[21]? = some (.int .i64 i))
    (hz0 : Z1 w1.drew) (za1 : ∀ W o, Z1 W → Z1 (W.alloc o)) (za2 : ∀ W o, Z2 W → Z2 (W.alloc o)) (zs : ∀ W c o, w1.heap.size ≤ c → (∃ cs, Bk W c 53 cs) → Z2 W → Z2 (put10 W c 0 o)) (hS : ∀ g, S g → g < w1.heap.size)
    (hc : ∀ W, Kept S w1 W → W.cell? ⟨mb, 0, none⟩ = some (.pointer (some ⟨b, 0, none⟩)) ∧ W.cell? ⟨B20, i * 2, none⟩ = some (.int .i64 bs) ∧ W.cell? ⟨B20, i * 2 + 1, none⟩ = some (.int .u32 bg))
    (hcall : ∀ W, Z1 W → Calls Try.prog 26 #[.pointer (some ⟨b, 0, none⟩), .agg #[.int .i64 bs, .int .u32 bg]] W fun e w' => e = .returned (.tuple #[.agg #[.int .i64 q.n, .int .i64 q.a.1, .int .u32 q.a.2, .int .i64 q.b.1, .int .u32 q.b.2, .int .i64 q.c.1, .int .u32 q.c.2, .int .i64 q.d.1, .int .u32 q.d.2, .bool q.h], .int .i64 E]) ∧ Z2 w' ∧ Kept S W w')
    (hQ : ∀ (us : Nat → Value) (B : Nat) (W : World), Kept S w1 W → Z2 W → Bk W B 53 (obc q) → w1.heap.size ≤ B → us 12 = .pointer (some ⟨B, 0, none⟩) → Q .normal ⟨(frmL [(160, us 0), (161, us 1), (162, us 2), (163, us 3), (164, us 4), (165, us 5), (166, us 6), (167, us 7), (168, us 8), (159, us 9), (169, us 10), (170, us 11), (27, us 12), (28, .int .i64 E)] T.toList).toArray, []⟩ W) :
    (Code.region id #[{ dst := some 160, op := Op.move (Operand.tmp 7), type := 61, pos := "outright.go:210", after := #[], guard := none }, { dst := some 161, op := Op.nilCheck (Operand.tmp 160), type := 0, pos := "outright.go:210", after := #[{ on := 0, ground := Ground.data }], guard := none }, { dst := some 162, op := Op.fieldAddr 68 (Operand.tmp 161) 0, type := 0, pos := "outright.go:210", after := #[{ on := 1, ground := Ground.data }], guard := none }, { dst := some 163, op := Op.load 25 (Operand.tmp 162), type := 25, pos := "outright.go:210", after := #[{ on := 2, ground := Ground.data }], guard := none }, { dst := some 164, op := Op.move (Operand.tmp 20), type := 32, pos := "outright.go:210", after := #[], guard := none }, { dst := some 165, op := Op.move (Operand.tmp 21), type := 3, pos := "outright.go:210", after := #[], guard := none }, { dst := some 166, op := Op.indexAddr 32 (Operand.tmp 164) (Operand.tmp 165), type := 0, pos := "outright.go:210", after := #[{ on := 4, ground := Ground.data }, { on := 5, ground := Ground.data }], guard := none }, { dst := some 167, op := Op.load 34 (Operand.tmp 166), type := 34, pos := "outright.go:210", after := #[{ on := 6, ground := Ground.data }], guard := none }, { dst := some 168, op := Op.call { callee := Callee.value (Operand.func 26), args := #[Operand.tmp 163, Operand.tmp 167], argTypes := #[25, 34] }, type := 54, pos := "outright.go:210", after := #[{ on := 3, ground := Ground.data }, { on := 7, ground := Ground.data }], guard := none }, { dst := some 159, op := Op.move (Operand.tmp 168), type := 54, pos := "outright.go:210", after := #[{ on := 8, ground := Ground.data }], guard := none }, { dst := some 169, op := Op.extract (Operand.tmp 159) 0, type := 53, pos := "outright.go:210", after := #[{ on := 9, ground := Ground.data }], guard := none }, { dst := some 170, op := Op.extract (Operand.tmp 159) 1, type := 26, pos := "outright.go:210", after := #[{ on := 9, ground := Ground.data }, { on := 13, ground := Ground.gcOnly Departure.lateStores }], guard := none }, { dst := some 27, op := Op.alloc 53, type := 0, pos := "outright.go:210", after := #[], guard := none }, { dst := none, op := Op.store 53 (Operand.tmp 27) (Operand.tmp 169), type := 0, pos := "outright.go:210", after := #[{ on := 12, ground := Ground.data }, { on := 10, ground := Ground.data }, { on := 8, ground := Ground.chain }, { on := 0, ground := Ground.phase }, { on := 1, ground := Ground.phase }, { on := 2, ground := Ground.phase }, { on := 3, ground := Ground.phase }, { on := 4, ground := Ground.phase }, { on := 5, ground := Ground.phase }, { on := 6, ground := Ground.phase }, { on := 7, ground := Ground.phase }, { on := 8, ground := Ground.phase }, { on := 9, ground := Ground.phase }, { on := 10, ground := Ground.phase }, { on := 11, ground := Ground.textOnly Departure.lateStores }, { on := 12, ground := Ground.phase }], guard := none }, { dst := some 28, op := Op.assign (Operand.tmp 170), type := 26, pos := "outright.go:210", after := #[{ on := 11, ground := Ground.data }, { on := 13, ground := Ground.chain }, { on := 0, ground := Ground.phase }, { on := 1, ground := Ground.phase }, { on := 2, ground := Ground.phase }, { on := 3, ground := Ground.phase }, { on := 4, ground := Ground.phase }, { on := 5, ground := Ground.phase }, { on := 6, ground := Ground.phase }, { on := 7, ground := Ground.phase }, { on := 8, ground := Ground.phase }, { on := 9, ground := Ground.phase }, { on := 10, ground := Ground.phase }, { on := 11, ground := Ground.phase }, { on := 12, ground := Ground.phase }, { on := 13, ground := Ground.phase }], guard := none }] true).wp Try.prog Q ⟨T, []⟩ w1 := by
  refine region_last 14 (fun f a W => ∃ tm, a = ⟨tm, []⟩ ∧ JR 14 re28D re28H re28P (re28V mb b B20 i bs bg q E) T (PHc w1 S Z1 Z2 8 12 13 27 53 (obc ob0) (obc q)) f tm W) (by kernel_rfl) rfl ?_ ?_ ?_ ?_ ?_
  · intro i o ho
    rcases i with _ | _ | _ | _ | _ | _ | _ | _ | _ | _ | _ | _ | _ | _ | _ | i
    all_goals simp at ho
    all_goals subst ho
    all_goals simp [Region.binds]
  · intro f hcl hp i hi
    have h1 := hp _ rfl
    simp [Region.binds] at h1
    rcases i with _ | _ | _ | _ | _ | _ | _ | _ | _ | _ | _ | _ | _ | _ | i
    all_goals try simp only [Nat.zero_add, Nat.reduceAdd] at hi ⊢
    all_goals first | omega | simp [h1]
  · exact ⟨T, rfl, rfl, fun _ _ => rfl, (fun k _ _ h => by cases h), (Kept.refl _ _).drew, hz0, (fun h => by cases h)⟩
  · rintro f a W ⟨tm, rfl, hJ⟩ hcl i o ho hi hfi hpre
    have k7 := (hJ.old 7 (by decide)).trans h7
    have k20 := (hJ.old 20 (by decide)).trans h20
    have k21 := (hJ.old 21 (by decide)).trans h21
    have cls := fun h => hcl 13 _ rfl h
    have clc := fun h => hcl 8 _ rfl h
    simp [Region.binds] at cls clc
    clear hcl
    rcases i with _ | _ | _ | _ | _ | _ | _ | _ | _ | _ | _ | _ | _ | _ | i
    rotate_right
    · exfalso; omega
    all_goals try simp only [Nat.zero_add, Nat.reduceAdd] at hfi ho ⊢
    all_goals simp at ho
    all_goals subst ho
    all_goals simp [Region.binds] at hpre
    all_goals clear hi
    · refine wpOp_of rfl rfl ?_
      go_simp
      exact hJ.step (i := 0) (by decide) rfl (re28T hT) re28PH re28I (fun _ => rfl) (hJ.ph.pure (by decide) (by decide) (by decide) (by decide))
    · have e160 : tm[160]? = some (.pointer (some ⟨mb, 0, none⟩)) := hJ.val 0 (by decide) rfl (by simp [hpre])
      refine wpOp_of rfl rfl ?_
      go_simp
      exact hJ.step (i := 1) (by decide) rfl (re28T hT) re28PH re28I (fun _ => rfl) (hJ.ph.pure (by decide) (by decide) (by decide) (by decide))
    · have e161 : tm[161]? = some (.pointer (some ⟨mb, 0, none⟩)) := hJ.val 1 (by decide) rfl (by simp [hpre])
      refine wpOp_of rfl rfl ?_
      go_simp
      exact hJ.step (i := 2) (by decide) rfl (re28T hT) re28PH re28I (fun _ => rfl) (hJ.ph.pure (by decide) (by decide) (by decide) (by decide))
    · have e162 : tm[162]? = some (.pointer (some ⟨mb, 0, none⟩)) := hJ.val 2 (by decide) rfl (by simp [hpre])
      obtain ⟨x0, z0, z1⟩ := hc _ hJ.ph.1
      refine wpOp_of rfl rfl ?_
      go_simp
      exact hJ.step (i := 3) (by decide) rfl (re28T hT) re28PH re28I (fun _ => rfl) (hJ.ph.pure (by decide) (by decide) (by decide) (by decide))
    · refine wpOp_of rfl rfl ?_
      go_simp
      exact hJ.step (i := 4) (by decide) rfl (re28T hT) re28PH re28I (fun _ => rfl) (hJ.ph.pure (by decide) (by decide) (by decide) (by decide))
    · refine wpOp_of rfl rfl ?_
      go_simp
      exact hJ.step (i := 5) (by decide) rfl (re28T hT) re28PH re28I (fun _ => rfl) (hJ.ph.pure (by decide) (by decide) (by decide) (by decide))
    · have e164 : tm[164]? = some (.slice (some ⟨B20, 0, none⟩) 4 4) := hJ.val 4 (by decide) rfl (by simp [hpre])
      have e165 : tm[165]? = some (.int .i64 i) := hJ.val 5 (by decide) rfl (by simp [hpre])
      refine wpOp_of rfl rfl ?_
      go_simp
      exact hJ.step (i := 6) (by decide) rfl (re28T hT) re28PH re28I (fun _ => rfl) (hJ.ph.pure (by decide) (by decide) (by decide) (by decide))
    · have e166 : tm[166]? = some (.pointer (some ⟨B20, i * 2, none⟩)) := hJ.val 6 (by decide) rfl (by simp [hpre])
      obtain ⟨x0, z0, z1⟩ := hc _ hJ.ph.1
      refine wpOp_of rfl rfl ?_
      go_simp
      exact hJ.step (i := 7) (by decide) rfl (re28T hT) re28PH re28I (fun _ => rfl) (hJ.ph.pure (by decide) (by decide) (by decide) (by decide))
    · have e163 : tm[163]? = some (.pointer (some ⟨b, 0, none⟩)) := hJ.val 3 (by decide) rfl (by simp [hpre])
      have e167 : tm[167]? = some (.agg #[.int .i64 bs, .int .u32 bg]) := hJ.val 7 (by decide) rfl (by simp [hpre])
      have hz := hJ.ph.2.1
      rw [hfi, if_neg (by decide)] at hz
      refine wpOp_of rfl rfl ?_
      go_simp
      go_at_call 26
      refine (hcall _ hz).mono ?_
      rintro e w' ⟨rfl, hz2, hk⟩
      go_simp
      exact hJ.step (i := 8) (by decide) rfl (re28T hT) re28PH re28I (fun _ => rfl) (hJ.ph.call (by decide) (by decide) (by decide) hS hz2 hk)
    · have e168 : tm[168]? = some (.tuple #[.agg #[.int .i64 q.n, .int .i64 q.a.1, .int .u32 q.a.2, .int .i64 q.b.1, .int .u32 q.b.2, .int .i64 q.c.1, .int .u32 q.c.2, .int .i64 q.d.1, .int .u32 q.d.2, .bool q.h], .int .i64 E]) := hJ.val 8 (by decide) rfl (by simp [hpre])
      refine wpOp_of rfl rfl ?_
      go_simp
      exact hJ.step (i := 9) (by decide) rfl (re28T hT) re28PH re28I (fun _ => rfl) (hJ.ph.pure (by decide) (by decide) (by decide) (by decide))
    · have e159 : tm[159]? = some (.tuple #[.agg #[.int .i64 q.n, .int .i64 q.a.1, .int .u32 q.a.2, .int .i64 q.b.1, .int .u32 q.b.2, .int .i64 q.c.1, .int .u32 q.c.2, .int .i64 q.d.1, .int .u32 q.d.2, .bool q.h], .int .i64 E]) := hJ.val 9 (by decide) rfl (by simp [hpre])
      refine wpOp_of rfl rfl ?_
      go_simp
      exact hJ.step (i := 10) (by decide) rfl (re28T hT) re28PH re28I (fun _ => rfl) (hJ.ph.pure (by decide) (by decide) (by decide) (by decide))
    · have e159 : tm[159]? = some (.tuple #[.agg #[.int .i64 q.n, .int .i64 q.a.1, .int .u32 q.a.2, .int .i64 q.b.1, .int .u32 q.b.2, .int .i64 q.c.1, .int .u32 q.c.2, .int .i64 q.d.1, .int .u32 q.d.2, .bool q.h], .int .i64 E]) := hJ.val 9 (by decide) rfl (by simp [hpre])
      refine wpOp_of rfl rfl ?_
      go_simp
      exact hJ.step (i := 11) (by decide) rfl (re28T hT) re28PH re28I (fun _ => rfl) (hJ.ph.pure (by decide) (by decide) (by decide) (by decide))
    · refine wpOp_of rfl rfl ?_
      go_simp
      refine hJ.step (i := 12) (by decide) rfl (re28T hT) re28PH re28I (fun h => by cases h) (hJ.ph.alloc (by decide) (by decide) ?_ (by rw [hJ.sz, hT]; decide) za1 za2)
      cases c : f 13 with
      | false => rfl
      | true => exact absurd (by simp [cls c] : f 12 = true) (by rw [hfi]; decide)
    · have hfa : f 12 = true := by simp [hpre]
      have e169 : tm[169]? = some (.agg #[.int .i64 q.n, .int .i64 q.a.1, .int .u32 q.a.2, .int .i64 q.b.1, .int .u32 q.b.2, .int .i64 q.c.1, .int .u32 q.c.2, .int .i64 q.d.1, .int .u32 q.d.2, .bool q.h]) := hJ.val 10 (by decide) rfl (by simp [hpre])
      obtain ⟨B, b1, b2, b3⟩ := hJ.ph.2.2 hfa
      rw [hfi] at b2
      have b2 : Bk W B 53 (obc ob0) := b2
      obtain ⟨x0, x1, x2, x3, x4, x5, x6, x7, x8, x9⟩ := b2.ob
      obtain ⟨z0, z1, z2, z3, z4, z5, z6, z7, z8, z9⟩ := b2.ofz
      have hfc : f 8 = true := by simp [hpre]
      refine wpOp_of rfl rfl ?_
      go_simp
      exact hJ.nodst (i := 13) rfl (hJ.ph.store10 (by decide) (by decide) hfc b1 b2 b3 zs)
  · rintro f a W ⟨tm, rfl, hJ⟩ hal
    have e170 : tm[170]? = some (.int .i64 E) := hJ.val 11 (by decide) rfl (hal 11 (by decide))
    refine wpOp_of rfl rfl ?_
    go_simp
    obtain ⟨hk, hz, hb⟩ := hJ.ph
    rw [hal 8 (by decide), if_pos rfl] at hz
    obtain ⟨B, b1, b2, b3⟩ := hb (hal 12 (by decide))
    rw [hal 13 (by decide), if_pos rfl] at b2
    have := hQ (fun k => (tm[re28D k]?).getD undef) B W hk hz b2 b3 (by show (tm[27]?).getD undef = _; rw [b1]; rfl)
    rw [show ([(160, (fun k => (tm[re28D k]?).getD undef) 0), (161, (fun k => (tm[re28D k]?).getD undef) 1), (162, (fun k => (tm[re28D k]?).getD undef) 2), (163, (fun k => (tm[re28D k]?).getD undef) 3), (164, (fun k => (tm[re28D k]?).getD undef) 4), (165, (fun k => (tm[re28D k]?).getD undef) 5), (166, (fun k => (tm[re28D k]?).getD undef) 6), (167, (fun k => (tm[re28D k]?).getD undef) 7), (168, (fun k => (tm[re28D k]?).getD undef) 8), (159, (fun k => (tm[re28D k]?).getD undef) 9), (169, (fun k => (tm[re28D k]?).getD undef) 10), (170, (fun k => (tm[re28D k]?).getD undef) 11), (27, (fun k => (tm[re28D k]?).getD undef) 12), (28, .int .i64 E)] : List (Nat × Value)) = asl 14 re28D re28H (fun k => (tm[re28D k]?).getD undef) ++ [(28, .int .i64 E)] from rfl, frmL_snoc, ← List.setIfInBounds_toArray, ← frm_list, ← hJ.frame (re28T hT) re28I] at this
    exact this
def re34D : Nat → Nat := fun k => ([226, 227, 228, 229, 230, 231, 232, 233, 234, 235, 236, 237, 238, 239, 240, 241, 225, 242, 243, 30, 0] : List Nat).getD k 0
def re34H : Nat → Bool := fun k => ([true, true, true, true, true, true, true, true, true, true, true, true, true, true, true, true, true, true, true, true, false] : List Bool).getD k false
def re34P : Nat → Bool := fun k => ([true, true, true, true, true, true, true, true, true, true, true, true, true, true, true, true, true, true, true, false, false] : List Bool).getD k false
def re34V (mb b g n cR y ri rg B20 i : Nat) (bs bg : Int) (q : Rf) (E : Int) : Nat → Value := fun k => ([.pointer (some ⟨mb, 0, none⟩), .pointer (some ⟨mb, 0, none⟩), .pointer (some ⟨mb, 0, none⟩), .pointer (some ⟨b, 0, none⟩), .pointer (some ⟨mb, 0, none⟩), .pointer (some ⟨mb, 0, none⟩), .pointer (some ⟨mb, 2, none⟩), .slice (some ⟨g, 0, none⟩) n cR, .int .i64 y, .pointer (some ⟨g, y * 2, none⟩), .agg #[.int .i64 ri, .int .u32 rg], .slice (some ⟨B20, 0, none⟩) 4 4, .int .i64 i, .pointer (some ⟨B20, i * 2, none⟩), .agg #[.int .i64 bs, .int .u32 bg], .tuple #[.agg #[.int .i64 q.1, .int .u32 q.2], .int .i64 E], .tuple #[.agg #[.int .i64 q.1, .int .u32 q.2], .int .i64 E], .agg #[.int .i64 q.1, .int .u32 q.2], .int .i64 E, undef, undef] : List Value).getD k undef
theorem re34T {T : Array Value} (hT : T.size = 335) : ∀ k, k < 21 → re34H k = true → re34D k < T.size := by rw [hT]; decide
theorem re34I : ∀ j k, j < 21 → k < 21 → re34H j = true → re34H k = true → re34D j = re34D k → j = k := fun j k hj hk => (by decide : ∀ j, j < 21 → ∀ k, k < 21 → re34H j = true → re34H k = true → re34D j = re34D k → j = k) j hj k hk
theorem re34PH : ∀ k, k < 21 → re34P k = true → re34H k = true := by decide
set_option maxHeartbeats 4000000 in
set_option maxRecDepth 100000 in
theorem re34_region {id : Nat} {Q : Exit → Act → World → Prop} {T : Array Value} {w1 : World} (mb b g n cR y ri rg B20 i : Nat) (bs bg : Int) (hy : y < n) (hi : (i : Int) < 4) {S : Nat → Prop} {Z1 Z2 : World → Prop} (q : Rf) (E : Int)
    (hT : T.size = 335) (h7 : T[7]? = some (.pointer (some ⟨mb, 0, none⟩))) (h20 : T[20]? = some (.slice (some ⟨B20, 0, none⟩) 4 4)) (h21 : T[21]? = some (.int .i64 i)) (h29 : T[29]? = some (.int .i64 y))
    (hz0 : Z1 w1.drew) (za1 : ∀ W o, Z1 W → Z1 (W.alloc o)) (za2 : ∀ W o, Z2 W → Z2 (W.alloc o)) (zs : ∀ W c u v, w1.heap.size ≤ c → (∃ cs, Bk W c 34 cs) → Z2 W → Z2 ((W.setCell ⟨c, 0, none⟩ u).setCell ⟨c, 1, none⟩ v)) (hS : ∀ g, S g → g < w1.heap.size)
    (hc : ∀ W, Kept S w1 W → W.cell? ⟨mb, 0, none⟩ = some (.pointer (some ⟨b, 0, none⟩)) ∧ W.cell? ⟨mb, 2, none⟩ = some (.slice (some ⟨g, 0, none⟩) n cR) ∧ W.cell? ⟨g, y * 2, none⟩ = some (.int .i64 ri) ∧ W.cell? ⟨g, y * 2 + 1, none⟩ = some (.int .u32 rg) ∧ W.cell? ⟨B20, i * 2, none⟩ = some (.int .i64 bs) ∧ W.cell? ⟨B20, i * 2 + 1, none⟩ = some (.int .u32 bg))
    (hcall : ∀ W, Z1 W → Calls Try.prog 20 #[.pointer (some ⟨b, 0, none⟩), .agg #[.int .i64 ri, .int .u32 rg], .int .i64 0, .agg #[.int .i64 bs, .int .u32 bg]] W fun e w' => e = .returned (.tuple #[.agg #[.int .i64 q.1, .int .u32 q.2], .int .i64 E]) ∧ Z2 w' ∧ Kept S W w')
    (hQ : ∀ (us : Nat → Value) (B : Nat) (W : World), Kept S w1 W → Z2 W → Bk W B 34 (rfc q) → w1.heap.size ≤ B → us 19 = .pointer (some ⟨B, 0, none⟩) → Q .normal ⟨(frmL [(226, us 0), (227, us 1), (228, us 2), (229, us 3), (230, us 4), (231, us 5), (232, us 6), (233, us 7), (234, us 8), (235, us 9), (236, us 10), (237, us 11), (238, us 12), (239, us 13), (240, us 14), (241, us 15), (225, us 16), (242, us 17), (243, us 18), (30, us 19), (31, .int .i64 E)] T.toList).toArray, []⟩ W) :
    (Code.region id #[{ dst := some 226, op := Op.move (Operand.tmp 7), type := 61, pos := "outright.go:215", after := #[], guard := none }, { dst := some 227, op := Op.nilCheck (Operand.tmp 226), type := 0, pos := "outright.go:215", after := #[{ on := 0, ground := Ground.data }], guard := none }, { dst := some 228, op := Op.fieldAddr 68 (Operand.tmp 227) 0, type := 0, pos := "outright.go:215", after := #[{ on := 1, ground := Ground.data }], guard := none }, { dst := some 229, op := Op.load 25 (Operand.tmp 228), type := 25, pos := "outright.go:215", after := #[{ on := 2, ground := Ground.data }], guard := none }, { dst := some 230, op := Op.move (Operand.tmp 7), type := 61, pos := "outright.go:215", after := #[], guard := none }, { dst := some 231, op := Op.nilCheck (Operand.tmp 230), type := 0, pos := "outright.go:215", after := #[{ on := 4, ground := Ground.data }], guard := none }, { dst := some 232, op := Op.fieldAddr 68 (Operand.tmp 231) 2, type := 0, pos := "outright.go:215", after := #[{ on := 5, ground := Ground.data }], guard := none }, { dst := some 233, op := Op.load 32 (Operand.tmp 232), type := 32, pos := "outright.go:215", after := #[{ on := 6, ground := Ground.data }], guard := none }, { dst := some 234, op := Op.move (Operand.tmp 29), type := 3, pos := "outright.go:215", after := #[], guard := none }, { dst := some 235, op := Op.indexAddr 32 (Operand.tmp 233) (Operand.tmp 234), type := 0, pos := "outright.go:215", after := #[{ on := 7, ground := Ground.data }, { on := 8, ground := Ground.data }], guard := none }, { dst := some 236, op := Op.load 34 (Operand.tmp 235), type := 34, pos := "outright.go:215", after := #[{ on := 9, ground := Ground.data }], guard := none }, { dst := some 237, op := Op.move (Operand.tmp 20), type := 32, pos := "outright.go:215", after := #[], guard := none }, { dst := some 238, op := Op.move (Operand.tmp 21), type := 3, pos := "outright.go:215", after := #[], guard := none }, { dst := some 239, op := Op.indexAddr 32 (Operand.tmp 237) (Operand.tmp 238), type := 0, pos := "outright.go:215", after := #[{ on := 11, ground := Ground.data }, { on := 12, ground := Ground.data }], guard := none }, { dst := some 240, op := Op.load 34 (Operand.tmp 239), type := 34, pos := "outright.go:215", after := #[{ on := 13, ground := Ground.data }], guard := none }, { dst := some 241, op := Op.call { callee := Callee.value (Operand.func 20), args := #[Operand.tmp 229, Operand.tmp 236, Operand.const (Value.int IntKind.i64 0), Operand.tmp 240], argTypes := #[25, 34, 3, 34] }, type := 37, pos := "outright.go:215", after := #[{ on := 3, ground := Ground.data }, { on := 10, ground := Ground.data }, { on := 14, ground := Ground.data }], guard := none }, { dst := some 225, op := Op.move (Operand.tmp 241), type := 37, pos := "outright.go:215", after := #[{ on := 15, ground := Ground.data }], guard := none }, { dst := some 242, op := Op.extract (Operand.tmp 225) 0, type := 34, pos := "outright.go:215", after := #[{ on := 16, ground := Ground.data }], guard := none }, { dst := some 243, op := Op.extract (Operand.tmp 225) 1, type := 26, pos := "outright.go:215", after := #[{ on := 16, ground := Ground.data }, { on := 20, ground := Ground.gcOnly Departure.lateStores }], guard := none }, { dst := some 30, op := Op.alloc 34, type := 0, pos := "outright.go:215", after := #[], guard := none }, { dst := none, op := Op.store 34 (Operand.tmp 30) (Operand.tmp 242), type := 0, pos := "outright.go:215", after := #[{ on := 19, ground := Ground.data }, { on := 17, ground := Ground.data }, { on := 15, ground := Ground.chain }, { on := 0, ground := Ground.phase }, { on := 1, ground := Ground.phase }, { on := 2, ground := Ground.phase }, { on := 3, ground := Ground.phase }, { on := 4, ground := Ground.phase }, { on := 5, ground := Ground.phase }, { on := 6, ground := Ground.phase }, { on := 7, ground := Ground.phase }, { on := 8, ground := Ground.phase }, { on := 9, ground := Ground.phase }, { on := 10, ground := Ground.phase }, { on := 11, ground := Ground.phase }, { on := 12, ground := Ground.phase }, { on := 13, ground := Ground.phase }, { on := 14, ground := Ground.phase }, { on := 15, ground := Ground.phase }, { on := 16, ground := Ground.phase }, { on := 17, ground := Ground.phase }, { on := 18, ground := Ground.textOnly Departure.lateStores }, { on := 19, ground := Ground.phase }], guard := none }, { dst := some 31, op := Op.assign (Operand.tmp 243), type := 26, pos := "outright.go:215", after := #[{ on := 18, ground := Ground.data }, { on := 20, ground := Ground.chain }, { on := 0, ground := Ground.phase }, { on := 1, ground := Ground.phase }, { on := 2, ground := Ground.phase }, { on := 3, ground := Ground.phase }, { on := 4, ground := Ground.phase }, { on := 5, ground := Ground.phase }, { on := 6, ground := Ground.phase }, { on := 7, ground := Ground.phase }, { on := 8, ground := Ground.phase }, { on := 9, ground := Ground.phase }, { on := 10, ground := Ground.phase }, { on := 11, ground := Ground.phase }, { on := 12, ground := Ground.phase }, { on := 13, ground := Ground.phase }, { on := 14, ground := Ground.phase }, { on := 15, ground := Ground.phase }, { on := 16, ground := Ground.phase }, { on := 17, ground := Ground.phase }, { on := 18, ground := Ground.phase }, { on := 19, ground := Ground.phase }, { on := 20, ground := Ground.phase }], guard := none }] true).wp Try.prog Q ⟨T, []⟩ w1 := by
  refine region_last 21 (fun f a W => ∃ tm, a = ⟨tm, []⟩ ∧ JR 21 re34D re34H re34P (re34V mb b g n cR y ri rg B20 i bs bg q E) T (PHc w1 S Z1 Z2 15 19 20 30 34 (rfc (0, 0)) (rfc q)) f tm W) (by kernel_rfl) rfl ?_ ?_ ?_ ?_ ?_
  · intro i o ho
    rcases i with _ | _ | _ | _ | _ | _ | _ | _ | _ | _ | _ | _ | _ | _ | _ | _ | _ | _ | _ | _ | _ | _ | i
    all_goals simp at ho
    all_goals subst ho
    all_goals simp [Region.binds]
  · intro f hcl hp i hi
    have h1 := hp _ rfl
    simp [Region.binds] at h1
    rcases i with _ | _ | _ | _ | _ | _ | _ | _ | _ | _ | _ | _ | _ | _ | _ | _ | _ | _ | _ | _ | _ | i
    all_goals try simp only [Nat.zero_add, Nat.reduceAdd] at hi ⊢
    all_goals first | omega | simp [h1]
  · exact ⟨T, rfl, rfl, fun _ _ => rfl, (fun k _ _ h => by cases h), (Kept.refl _ _).drew, hz0, (fun h => by cases h)⟩
  · rintro f a W ⟨tm, rfl, hJ⟩ hcl i o ho hi hfi hpre
    have k7 := (hJ.old 7 (by decide)).trans h7
    have k20 := (hJ.old 20 (by decide)).trans h20
    have k21 := (hJ.old 21 (by decide)).trans h21
    have k29 := (hJ.old 29 (by decide)).trans h29
    have cls := fun h => hcl 20 _ rfl h
    have clc := fun h => hcl 15 _ rfl h
    simp [Region.binds] at cls clc
    clear hcl
    rcases i with _ | _ | _ | _ | _ | _ | _ | _ | _ | _ | _ | _ | _ | _ | _ | _ | _ | _ | _ | _ | _ | i
    rotate_right
    · exfalso; omega
    all_goals try simp only [Nat.zero_add, Nat.reduceAdd] at hfi ho ⊢
    all_goals simp at ho
    all_goals subst ho
    all_goals simp [Region.binds] at hpre
    all_goals clear hi
    · refine wpOp_of rfl rfl ?_
      go_simp
      exact hJ.step (i := 0) (by decide) rfl (re34T hT) re34PH re34I (fun _ => rfl) (hJ.ph.pure (by decide) (by decide) (by decide) (by decide))
    · have e226 : tm[226]? = some (.pointer (some ⟨mb, 0, none⟩)) := hJ.val 0 (by decide) rfl (by simp [hpre])
      refine wpOp_of rfl rfl ?_
      go_simp
      exact hJ.step (i := 1) (by decide) rfl (re34T hT) re34PH re34I (fun _ => rfl) (hJ.ph.pure (by decide) (by decide) (by decide) (by decide))
    · have e227 : tm[227]? = some (.pointer (some ⟨mb, 0, none⟩)) := hJ.val 1 (by decide) rfl (by simp [hpre])
      refine wpOp_of rfl rfl ?_
      go_simp
      exact hJ.step (i := 2) (by decide) rfl (re34T hT) re34PH re34I (fun _ => rfl) (hJ.ph.pure (by decide) (by decide) (by decide) (by decide))
    · have e228 : tm[228]? = some (.pointer (some ⟨mb, 0, none⟩)) := hJ.val 2 (by decide) rfl (by simp [hpre])
      obtain ⟨x0, x2, y0, y1, z0, z1⟩ := hc _ hJ.ph.1
      refine wpOp_of rfl rfl ?_
      go_simp
      exact hJ.step (i := 3) (by decide) rfl (re34T hT) re34PH re34I (fun _ => rfl) (hJ.ph.pure (by decide) (by decide) (by decide) (by decide))
    · refine wpOp_of rfl rfl ?_
      go_simp
      exact hJ.step (i := 4) (by decide) rfl (re34T hT) re34PH re34I (fun _ => rfl) (hJ.ph.pure (by decide) (by decide) (by decide) (by decide))
    · have e230 : tm[230]? = some (.pointer (some ⟨mb, 0, none⟩)) := hJ.val 4 (by decide) rfl (by simp [hpre])
      refine wpOp_of rfl rfl ?_
      go_simp
      exact hJ.step (i := 5) (by decide) rfl (re34T hT) re34PH re34I (fun _ => rfl) (hJ.ph.pure (by decide) (by decide) (by decide) (by decide))
    · have e231 : tm[231]? = some (.pointer (some ⟨mb, 0, none⟩)) := hJ.val 5 (by decide) rfl (by simp [hpre])
      refine wpOp_of rfl rfl ?_
      go_simp
      exact hJ.step (i := 6) (by decide) rfl (re34T hT) re34PH re34I (fun _ => rfl) (hJ.ph.pure (by decide) (by decide) (by decide) (by decide))
    · have e232 : tm[232]? = some (.pointer (some ⟨mb, 2, none⟩)) := hJ.val 6 (by decide) rfl (by simp [hpre])
      obtain ⟨x0, x2, y0, y1, z0, z1⟩ := hc _ hJ.ph.1
      refine wpOp_of rfl rfl ?_
      go_simp
      exact hJ.step (i := 7) (by decide) rfl (re34T hT) re34PH re34I (fun _ => rfl) (hJ.ph.pure (by decide) (by decide) (by decide) (by decide))
    · refine wpOp_of rfl rfl ?_
      go_simp
      exact hJ.step (i := 8) (by decide) rfl (re34T hT) re34PH re34I (fun _ => rfl) (hJ.ph.pure (by decide) (by decide) (by decide) (by decide))
    · have e233 : tm[233]? = some (.slice (some ⟨g, 0, none⟩) n cR) := hJ.val 7 (by decide) rfl (by simp [hpre])
      have e234 : tm[234]? = some (.int .i64 y) := hJ.val 8 (by decide) rfl (by simp [hpre])
      refine wpOp_of rfl rfl ?_
      go_simp
      exact hJ.step (i := 9) (by decide) rfl (re34T hT) re34PH re34I (fun _ => rfl) (hJ.ph.pure (by decide) (by decide) (by decide) (by decide))
    · have e235 : tm[235]? = some (.pointer (some ⟨g, y * 2, none⟩)) := hJ.val 9 (by decide) rfl (by simp [hpre])
      obtain ⟨x0, x2, y0, y1, z0, z1⟩ := hc _ hJ.ph.1
      refine wpOp_of rfl rfl ?_
      go_simp
      exact hJ.step (i := 10) (by decide) rfl (re34T hT) re34PH re34I (fun _ => rfl) (hJ.ph.pure (by decide) (by decide) (by decide) (by decide))
    · refine wpOp_of rfl rfl ?_
      go_simp
      exact hJ.step (i := 11) (by decide) rfl (re34T hT) re34PH re34I (fun _ => rfl) (hJ.ph.pure (by decide) (by decide) (by decide) (by decide))
    · refine wpOp_of rfl rfl ?_
      go_simp
      exact hJ.step (i := 12) (by decide) rfl (re34T hT) re34PH re34I (fun _ => rfl) (hJ.ph.pure (by decide) (by decide) (by decide) (by decide))
    · have e237 : tm[237]? = some (.slice (some ⟨B20, 0, none⟩) 4 4) := hJ.val 11 (by decide) rfl (by simp [hpre])
      have e238 : tm[238]? = some (.int .i64 i) := hJ.val 12 (by decide) rfl (by simp [hpre])
      refine wpOp_of rfl rfl ?_
      go_simp
      exact hJ.step (i := 13) (by decide) rfl (re34T hT) re34PH re34I (fun _ => rfl) (hJ.ph.pure (by decide) (by decide) (by decide) (by decide))
    · have e239 : tm[239]? = some (.pointer (some ⟨B20, i * 2, none⟩)) := hJ.val 13 (by decide) rfl (by simp [hpre])
      obtain ⟨x0, x2, y0, y1, z0, z1⟩ := hc _ hJ.ph.1
      refine wpOp_of rfl rfl ?_
      go_simp
      exact hJ.step (i := 14) (by decide) rfl (re34T hT) re34PH re34I (fun _ => rfl) (hJ.ph.pure (by decide) (by decide) (by decide) (by decide))
    · have e229 : tm[229]? = some (.pointer (some ⟨b, 0, none⟩)) := hJ.val 3 (by decide) rfl (by simp [hpre])
      have e236 : tm[236]? = some (.agg #[.int .i64 ri, .int .u32 rg]) := hJ.val 10 (by decide) rfl (by simp [hpre])
      have e240 : tm[240]? = some (.agg #[.int .i64 bs, .int .u32 bg]) := hJ.val 14 (by decide) rfl (by simp [hpre])
      have hz := hJ.ph.2.1
      rw [hfi, if_neg (by decide)] at hz
      refine wpOp_of rfl rfl ?_
      go_simp
      go_at_call 20
      refine (hcall _ hz).mono ?_
      rintro e w' ⟨rfl, hz2, hk⟩
      go_simp
      exact hJ.step (i := 15) (by decide) rfl (re34T hT) re34PH re34I (fun _ => rfl) (hJ.ph.call (by decide) (by decide) (by decide) hS hz2 hk)
    · have e241 : tm[241]? = some (.tuple #[.agg #[.int .i64 q.1, .int .u32 q.2], .int .i64 E]) := hJ.val 15 (by decide) rfl (by simp [hpre])
      refine wpOp_of rfl rfl ?_
      go_simp
      exact hJ.step (i := 16) (by decide) rfl (re34T hT) re34PH re34I (fun _ => rfl) (hJ.ph.pure (by decide) (by decide) (by decide) (by decide))
    · have e225 : tm[225]? = some (.tuple #[.agg #[.int .i64 q.1, .int .u32 q.2], .int .i64 E]) := hJ.val 16 (by decide) rfl (by simp [hpre])
      refine wpOp_of rfl rfl ?_
      go_simp
      exact hJ.step (i := 17) (by decide) rfl (re34T hT) re34PH re34I (fun _ => rfl) (hJ.ph.pure (by decide) (by decide) (by decide) (by decide))
    · have e225 : tm[225]? = some (.tuple #[.agg #[.int .i64 q.1, .int .u32 q.2], .int .i64 E]) := hJ.val 16 (by decide) rfl (by simp [hpre])
      refine wpOp_of rfl rfl ?_
      go_simp
      exact hJ.step (i := 18) (by decide) rfl (re34T hT) re34PH re34I (fun _ => rfl) (hJ.ph.pure (by decide) (by decide) (by decide) (by decide))
    · refine wpOp_of rfl rfl ?_
      go_simp
      refine hJ.step (i := 19) (by decide) rfl (re34T hT) re34PH re34I (fun h => by cases h) (hJ.ph.alloc (by decide) (by decide) ?_ (by rw [hJ.sz, hT]; decide) za1 za2)
      cases c : f 20 with
      | false => rfl
      | true => exact absurd (by simp [cls c] : f 19 = true) (by rw [hfi]; decide)
    · have hfa : f 19 = true := by simp [hpre]
      have e242 : tm[242]? = some (.agg #[.int .i64 q.1, .int .u32 q.2]) := hJ.val 17 (by decide) rfl (by simp [hpre])
      obtain ⟨B, b1, b2, b3⟩ := hJ.ph.2.2 hfa
      rw [hfi] at b2
      have b2 : Bk W B 34 (rfc (0, 0)) := b2
      obtain ⟨x0, x1⟩ := b2.rf
      obtain ⟨z0, z1⟩ := b2.rfz
      have hfc : f 15 = true := by simp [hpre]
      refine wpOp_of rfl rfl ?_
      go_simp
      exact hJ.nodst (i := 20) rfl (hJ.ph.store (by decide) (by decide) hfc b1 b2 b3 zs)
  · rintro f a W ⟨tm, rfl, hJ⟩ hal
    have e243 : tm[243]? = some (.int .i64 E) := hJ.val 18 (by decide) rfl (hal 18 (by decide))
    refine wpOp_of rfl rfl ?_
    go_simp
    obtain ⟨hk, hz, hb⟩ := hJ.ph
    rw [hal 15 (by decide), if_pos rfl] at hz
    obtain ⟨B, b1, b2, b3⟩ := hb (hal 19 (by decide))
    rw [hal 20 (by decide), if_pos rfl] at b2
    have := hQ (fun k => (tm[re34D k]?).getD undef) B W hk hz b2 b3 (by show (tm[30]?).getD undef = _; rw [b1]; rfl)
    rw [show ([(226, (fun k => (tm[re34D k]?).getD undef) 0), (227, (fun k => (tm[re34D k]?).getD undef) 1), (228, (fun k => (tm[re34D k]?).getD undef) 2), (229, (fun k => (tm[re34D k]?).getD undef) 3), (230, (fun k => (tm[re34D k]?).getD undef) 4), (231, (fun k => (tm[re34D k]?).getD undef) 5), (232, (fun k => (tm[re34D k]?).getD undef) 6), (233, (fun k => (tm[re34D k]?).getD undef) 7), (234, (fun k => (tm[re34D k]?).getD undef) 8), (235, (fun k => (tm[re34D k]?).getD undef) 9), (236, (fun k => (tm[re34D k]?).getD undef) 10), (237, (fun k => (tm[re34D k]?).getD undef) 11), (238, (fun k => (tm[re34D k]?).getD undef) 12), (239, (fun k => (tm[re34D k]?).getD undef) 13), (240, (fun k => (tm[re34D k]?).getD undef) 14), (241, (fun k => (tm[re34D k]?).getD undef) 15), (225, (fun k => (tm[re34D k]?).getD undef) 16), (242, (fun k => (tm[re34D k]?).getD undef) 17), (243, (fun k => (tm[re34D k]?).getD undef) 18), (30, (fun k => (tm[re34D k]?).getD undef) 19), (31, .int .i64 E)] : List (Nat × Value)) = asl 21 re34D re34H (fun k => (tm[re34D k]?).getD undef) ++ [(31, .int .i64 E)] from rfl, frmL_snoc, ← List.setIfInBounds_toArray, ← frm_list, ← hJ.frame (re34T hT) re34I] at this
    exact this
def re35D : Nat → Nat := fun k => ([245, 246, 247, 248, 249, 250, 251, 252, 253, 254, 255, 256, 257, 258, 259, 260, 261, 262, 244, 263, 264, 32, 0] : List Nat).getD k 0
def re35H : Nat → Bool := fun k => ([true, true, true, true, true, true, true, true, true, true, true, true, true, true, true, true, true, true, true, true, true, true, false] : List Bool).getD k false
def re35P : Nat → Bool := fun k => ([true, true, true, true, true, true, true, true, true, true, true, true, true, true, true, true, true, true, true, true, true, false, false] : List Bool).getD k false
def re35V (mb b g n cR y ri rg B20 i : Nat) (bs bg : Int) (nn c4 : Int) (q : Rf) (E : Int) : Nat → Value := fun k => ([.pointer (some ⟨mb, 0, none⟩), .pointer (some ⟨mb, 0, none⟩), .pointer (some ⟨mb, 0, none⟩), .pointer (some ⟨b, 0, none⟩), .pointer (some ⟨mb, 0, none⟩), .pointer (some ⟨mb, 0, none⟩), .pointer (some ⟨mb, 2, none⟩), .slice (some ⟨g, 0, none⟩) n cR, .int .i64 y, .pointer (some ⟨g, y * 2, none⟩), .agg #[.int .i64 ri, .int .u32 rg], .int .i64 nn, .int .i64 c4, .slice (some ⟨B20, 0, none⟩) 4 4, .int .i64 i, .pointer (some ⟨B20, i * 2, none⟩), .agg #[.int .i64 bs, .int .u32 bg], .tuple #[.agg #[.int .i64 q.1, .int .u32 q.2], .int .i64 E], .tuple #[.agg #[.int .i64 q.1, .int .u32 q.2], .int .i64 E], .agg #[.int .i64 q.1, .int .u32 q.2], .int .i64 E, undef, undef] : List Value).getD k undef
theorem re35T {T : Array Value} (hT : T.size = 335) : ∀ k, k < 23 → re35H k = true → re35D k < T.size := by rw [hT]; decide
theorem re35I : ∀ j k, j < 23 → k < 23 → re35H j = true → re35H k = true → re35D j = re35D k → j = k := fun j k hj hk => (by decide : ∀ j, j < 23 → ∀ k, k < 23 → re35H j = true → re35H k = true → re35D j = re35D k → j = k) j hj k hk
theorem re35PH : ∀ k, k < 23 → re35P k = true → re35H k = true := by decide
set_option maxHeartbeats 4000000 in
set_option maxRecDepth 100000 in
theorem re35_region {id : Nat} {Q : Exit → Act → World → Prop} {T : Array Value} {w1 : World} (mb b g n cR y ri rg B20 i : Nat) (bs bg : Int) (nn c4 : Int) (hy : y < n) (hi : (i : Int) < 4) (hc4 : IntKind.i64.wrap (4 + nn) = c4) {S : Nat → Prop} {Z1 Z2 : World → Prop} (q : Rf) (E : Int)
    (hT : T.size = 335) (h7 : T[7]? = some (.pointer (some ⟨mb, 0, none⟩))) (h20 : T[20]? = some (.slice (some ⟨B20, 0, none⟩) 4 4)) (h21 : T[21]? = some (.int .i64 i)) (h29 : T[29]? = some (.int .i64 y)) (h9 : T[9]? = some (.int .i64 nn))
    (hz0 : Z1 w1.drew) (za1 : ∀ W o, Z1 W → Z1 (W.alloc o)) (za2 : ∀ W o, Z2 W → Z2 (W.alloc o)) (zs : ∀ W c u v, w1.heap.size ≤ c → (∃ cs, Bk W c 34 cs) → Z2 W → Z2 ((W.setCell ⟨c, 0, none⟩ u).setCell ⟨c, 1, none⟩ v)) (hS : ∀ g, S g → g < w1.heap.size)
    (hc : ∀ W, Kept S w1 W → W.cell? ⟨mb, 0, none⟩ = some (.pointer (some ⟨b, 0, none⟩)) ∧ W.cell? ⟨mb, 2, none⟩ = some (.slice (some ⟨g, 0, none⟩) n cR) ∧ W.cell? ⟨g, y * 2, none⟩ = some (.int .i64 ri) ∧ W.cell? ⟨g, y * 2 + 1, none⟩ = some (.int .u32 rg) ∧ W.cell? ⟨B20, i * 2, none⟩ = some (.int .i64 bs) ∧ W.cell? ⟨B20, i * 2 + 1, none⟩ = some (.int .u32 bg))
    (hcall : ∀ W, Z1 W → Calls Try.prog 20 #[.pointer (some ⟨b, 0, none⟩), .agg #[.int .i64 ri, .int .u32 rg], .int .i64 c4, .agg #[.int .i64 bs, .int .u32 bg]] W fun e w' => e = .returned (.tuple #[.agg #[.int .i64 q.1, .int .u32 q.2], .int .i64 E]) ∧ Z2 w' ∧ Kept S W w')
    (hQ : ∀ (us : Nat → Value) (B : Nat) (W : World), Kept S w1 W → Z2 W → Bk W B 34 (rfc q) → w1.heap.size ≤ B → us 21 = .pointer (some ⟨B, 0, none⟩) → Q .normal ⟨(frmL [(245, us 0), (246, us 1), (247, us 2), (248, us 3), (249, us 4), (250, us 5), (251, us 6), (252, us 7), (253, us 8), (254, us 9), (255, us 10), (256, us 11), (257, us 12), (258, us 13), (259, us 14), (260, us 15), (261, us 16), (262, us 17), (244, us 18), (263, us 19), (264, us 20), (32, us 21), (33, .int .i64 E)] T.toList).toArray, []⟩ W) :
    (Code.region id #[{ dst := some 245, op := Op.move (Operand.tmp 7), type := 61, pos := "outright.go:216", after := #[], guard := none }, { dst := some 246, op := Op.nilCheck (Operand.tmp 245), type := 0, pos := "outright.go:216", after := #[{ on := 0, ground := Ground.data }], guard := none }, { dst := some 247, op := Op.fieldAddr 68 (Operand.tmp 246) 0, type := 0, pos := "outright.go:216", after := #[{ on := 1, ground := Ground.data }], guard := none }, { dst := some 248, op := Op.load 25 (Operand.tmp 247), type := 25, pos := "outright.go:216", after := #[{ on := 2, ground := Ground.data }], guard := none }, { dst := some 249, op := Op.move (Operand.tmp 7), type := 61, pos := "outright.go:216", after := #[], guard := none }, { dst := some 250, op := Op.nilCheck (Operand.tmp 249), type := 0, pos := "outright.go:216", after := #[{ on := 4, ground := Ground.data }], guard := none }, { dst := some 251, op := Op.fieldAddr 68 (Operand.tmp 250) 2, type := 0, pos := "outright.go:216", after := #[{ on := 5, ground := Ground.data }], guard := none }, { dst := some 252, op := Op.load 32 (Operand.tmp 251), type := 32, pos := "outright.go:216", after := #[{ on := 6, ground := Ground.data }], guard := none }, { dst := some 253, op := Op.move (Operand.tmp 29), type := 3, pos := "outright.go:216", after := #[], guard := none }, { dst := some 254, op := Op.indexAddr 32 (Operand.tmp 252) (Operand.tmp 253), type := 0, pos := "outright.go:216", after := #[{ on := 7, ground := Ground.data }, { on := 8, ground := Ground.data }], guard := none }, { dst := some 255, op := Op.load 34 (Operand.tmp 254), type := 34, pos := "outright.go:216", after := #[{ on := 9, ground := Ground.data }], guard := none }, { dst := some 256, op := Op.move (Operand.tmp 9), type := 3, pos := "outright.go:216", after := #[], guard := none }, { dst := some 257, op := Op.binOp BinOp.add 3 (Operand.const (Value.int IntKind.i64 4)) (Operand.tmp 256) 3, type := 3, pos := "outright.go:216", after := #[{ on := 11, ground := Ground.data }], guard := none }, { dst := some 258, op := Op.move (Operand.tmp 20), type := 32, pos := "outright.go:216", after := #[], guard := none }, { dst := some 259, op := Op.move (Operand.tmp 21), type := 3, pos := "outright.go:216", after := #[], guard := none }, { dst := some 260, op := Op.indexAddr 32 (Operand.tmp 258) (Operand.tmp 259), type := 0, pos := "outright.go:216", after := #[{ on := 13, ground := Ground.data }, { on := 14, ground := Ground.data }], guard := none }, { dst := some 261, op := Op.load 34 (Operand.tmp 260), type := 34, pos := "outright.go:216", after := #[{ on := 15, ground := Ground.data }], guard := none }, { dst := some 262, op := Op.call { callee := Callee.value (Operand.func 20), args := #[Operand.tmp 248, Operand.tmp 255, Operand.tmp 257, Operand.tmp 261], argTypes := #[25, 34, 3, 34] }, type := 37, pos := "outright.go:216", after := #[{ on := 3, ground := Ground.data }, { on := 10, ground := Ground.data }, { on := 12, ground := Ground.data }, { on := 16, ground := Ground.data }], guard := none }, { dst := some 244, op := Op.move (Operand.tmp 262), type := 37, pos := "outright.go:216", after := #[{ on := 17, ground := Ground.data }], guard := none }, { dst := some 263, op := Op.extract (Operand.tmp 244) 0, type := 34, pos := "outright.go:216", after := #[{ on := 18, ground := Ground.data }], guard := none }, { dst := some 264, op := Op.extract (Operand.tmp 244) 1, type := 26, pos := "outright.go:216", after := #[{ on := 18, ground := Ground.data }, { on := 22, ground := Ground.gcOnly Departure.lateStores }], guard := none }, { dst := some 32, op := Op.alloc 34, type := 0, pos := "outright.go:216", after := #[], guard := none }, { dst := none, op := Op.store 34 (Operand.tmp 32) (Operand.tmp 263), type := 0, pos := "outright.go:216", after := #[{ on := 21, ground := Ground.data }, { on := 19, ground := Ground.data }, { on := 17, ground := Ground.chain }, { on := 0, ground := Ground.phase }, { on := 1, ground := Ground.phase }, { on := 2, ground := Ground.phase }, { on := 3, ground := Ground.phase }, { on := 4, ground := Ground.phase }, { on := 5, ground := Ground.phase }, { on := 6, ground := Ground.phase }, { on := 7, ground := Ground.phase }, { on := 8, ground := Ground.phase }, { on := 9, ground := Ground.phase }, { on := 10, ground := Ground.phase }, { on := 11, ground := Ground.phase }, { on := 12, ground := Ground.phase }, { on := 13, ground := Ground.phase }, { on := 14, ground := Ground.phase }, { on := 15, ground := Ground.phase }, { on := 16, ground := Ground.phase }, { on := 17, ground := Ground.phase }, { on := 18, ground := Ground.phase }, { on := 19, ground := Ground.phase }, { on := 20, ground := Ground.textOnly Departure.lateStores }, { on := 21, ground := Ground.phase }], guard := none }, { dst := some 33, op := Op.assign (Operand.tmp 264), type := 26, pos := "outright.go:216", after := #[{ on := 20, ground := Ground.data }, { on := 22, ground := Ground.chain }, { on := 0, ground := Ground.phase }, { on := 1, ground := Ground.phase }, { on := 2, ground := Ground.phase }, { on := 3, ground := Ground.phase }, { on := 4, ground := Ground.phase }, { on := 5, ground := Ground.phase }, { on := 6, ground := Ground.phase }, { on := 7, ground := Ground.phase }, { on := 8, ground := Ground.phase }, { on := 9, ground := Ground.phase }, { on := 10, ground := Ground.phase }, { on := 11, ground := Ground.phase }, { on := 12, ground := Ground.phase }, { on := 13, ground := Ground.phase }, { on := 14, ground := Ground.phase }, { on := 15, ground := Ground.phase }, { on := 16, ground := Ground.phase }, { on := 17, ground := Ground.phase }, { on := 18, ground := Ground.phase }, { on := 19, ground := Ground.phase }, { on := 20, ground := Ground.phase }, { on := 21, ground := Ground.phase }, { on := 22, ground := Ground.phase }], guard := none }] true).wp Try.prog Q ⟨T, []⟩ w1 := by
  refine region_last 23 (fun f a W => ∃ tm, a = ⟨tm, []⟩ ∧ JR 23 re35D re35H re35P (re35V mb b g n cR y ri rg B20 i bs bg nn c4 q E) T (PHc w1 S Z1 Z2 17 21 22 32 34 (rfc (0, 0)) (rfc q)) f tm W) (by kernel_rfl) rfl ?_ ?_ ?_ ?_ ?_
  · intro i o ho
    rcases i with _ | _ | _ | _ | _ | _ | _ | _ | _ | _ | _ | _ | _ | _ | _ | _ | _ | _ | _ | _ | _ | _ | _ | _ | i
    all_goals simp at ho
    all_goals subst ho
    all_goals simp [Region.binds]
  · intro f hcl hp i hi
    have h1 := hp _ rfl
    simp [Region.binds] at h1
    rcases i with _ | _ | _ | _ | _ | _ | _ | _ | _ | _ | _ | _ | _ | _ | _ | _ | _ | _ | _ | _ | _ | _ | _ | i
    all_goals try simp only [Nat.zero_add, Nat.reduceAdd] at hi ⊢
    all_goals first | omega | simp [h1]
  · exact ⟨T, rfl, rfl, fun _ _ => rfl, (fun k _ _ h => by cases h), (Kept.refl _ _).drew, hz0, (fun h => by cases h)⟩
  · rintro f a W ⟨tm, rfl, hJ⟩ hcl i o ho hi hfi hpre
    have k7 := (hJ.old 7 (by decide)).trans h7
    have k20 := (hJ.old 20 (by decide)).trans h20
    have k21 := (hJ.old 21 (by decide)).trans h21
    have k29 := (hJ.old 29 (by decide)).trans h29
    have k9 := (hJ.old 9 (by decide)).trans h9
    have cls := fun h => hcl 22 _ rfl h
    have clc := fun h => hcl 17 _ rfl h
    simp [Region.binds] at cls clc
    clear hcl
    rcases i with _ | _ | _ | _ | _ | _ | _ | _ | _ | _ | _ | _ | _ | _ | _ | _ | _ | _ | _ | _ | _ | _ | _ | i
    rotate_right
    · exfalso; omega
    all_goals try simp only [Nat.zero_add, Nat.reduceAdd] at hfi ho ⊢
    all_goals simp at ho
    all_goals subst ho
    all_goals simp [Region.binds] at hpre
    all_goals clear hi
    · refine wpOp_of rfl rfl ?_
      go_simp
      exact hJ.step (i := 0) (by decide) rfl (re35T hT) re35PH re35I (fun _ => rfl) (hJ.ph.pure (by decide) (by decide) (by decide) (by decide))
    · have e245 : tm[245]? = some (.pointer (some ⟨mb, 0, none⟩)) := hJ.val 0 (by decide) rfl (by simp [hpre])
      refine wpOp_of rfl rfl ?_
      go_simp
      exact hJ.step (i := 1) (by decide) rfl (re35T hT) re35PH re35I (fun _ => rfl) (hJ.ph.pure (by decide) (by decide) (by decide) (by decide))
    · have e246 : tm[246]? = some (.pointer (some ⟨mb, 0, none⟩)) := hJ.val 1 (by decide) rfl (by simp [hpre])
      refine wpOp_of rfl rfl ?_
      go_simp
      exact hJ.step (i := 2) (by decide) rfl (re35T hT) re35PH re35I (fun _ => rfl) (hJ.ph.pure (by decide) (by decide) (by decide) (by decide))
    · have e247 : tm[247]? = some (.pointer (some ⟨mb, 0, none⟩)) := hJ.val 2 (by decide) rfl (by simp [hpre])
      obtain ⟨x0, x2, y0, y1, z0, z1⟩ := hc _ hJ.ph.1
      refine wpOp_of rfl rfl ?_
      go_simp
      exact hJ.step (i := 3) (by decide) rfl (re35T hT) re35PH re35I (fun _ => rfl) (hJ.ph.pure (by decide) (by decide) (by decide) (by decide))
    · refine wpOp_of rfl rfl ?_
      go_simp
      exact hJ.step (i := 4) (by decide) rfl (re35T hT) re35PH re35I (fun _ => rfl) (hJ.ph.pure (by decide) (by decide) (by decide) (by decide))
    · have e249 : tm[249]? = some (.pointer (some ⟨mb, 0, none⟩)) := hJ.val 4 (by decide) rfl (by simp [hpre])
      refine wpOp_of rfl rfl ?_
      go_simp
      exact hJ.step (i := 5) (by decide) rfl (re35T hT) re35PH re35I (fun _ => rfl) (hJ.ph.pure (by decide) (by decide) (by decide) (by decide))
    · have e250 : tm[250]? = some (.pointer (some ⟨mb, 0, none⟩)) := hJ.val 5 (by decide) rfl (by simp [hpre])
      refine wpOp_of rfl rfl ?_
      go_simp
      exact hJ.step (i := 6) (by decide) rfl (re35T hT) re35PH re35I (fun _ => rfl) (hJ.ph.pure (by decide) (by decide) (by decide) (by decide))
    · have e251 : tm[251]? = some (.pointer (some ⟨mb, 2, none⟩)) := hJ.val 6 (by decide) rfl (by simp [hpre])
      obtain ⟨x0, x2, y0, y1, z0, z1⟩ := hc _ hJ.ph.1
      refine wpOp_of rfl rfl ?_
      go_simp
      exact hJ.step (i := 7) (by decide) rfl (re35T hT) re35PH re35I (fun _ => rfl) (hJ.ph.pure (by decide) (by decide) (by decide) (by decide))
    · refine wpOp_of rfl rfl ?_
      go_simp
      exact hJ.step (i := 8) (by decide) rfl (re35T hT) re35PH re35I (fun _ => rfl) (hJ.ph.pure (by decide) (by decide) (by decide) (by decide))
    · have e252 : tm[252]? = some (.slice (some ⟨g, 0, none⟩) n cR) := hJ.val 7 (by decide) rfl (by simp [hpre])
      have e253 : tm[253]? = some (.int .i64 y) := hJ.val 8 (by decide) rfl (by simp [hpre])
      refine wpOp_of rfl rfl ?_
      go_simp
      exact hJ.step (i := 9) (by decide) rfl (re35T hT) re35PH re35I (fun _ => rfl) (hJ.ph.pure (by decide) (by decide) (by decide) (by decide))
    · have e254 : tm[254]? = some (.pointer (some ⟨g, y * 2, none⟩)) := hJ.val 9 (by decide) rfl (by simp [hpre])
      obtain ⟨x0, x2, y0, y1, z0, z1⟩ := hc _ hJ.ph.1
      refine wpOp_of rfl rfl ?_
      go_simp
      exact hJ.step (i := 10) (by decide) rfl (re35T hT) re35PH re35I (fun _ => rfl) (hJ.ph.pure (by decide) (by decide) (by decide) (by decide))
    · refine wpOp_of rfl rfl ?_
      go_simp
      exact hJ.step (i := 11) (by decide) rfl (re35T hT) re35PH re35I (fun _ => rfl) (hJ.ph.pure (by decide) (by decide) (by decide) (by decide))
    · have e256 : tm[256]? = some (.int .i64 nn) := hJ.val 11 (by decide) rfl (by simp [hpre])
      refine wpOp_of rfl rfl ?_
      go_simp
      exact hJ.step (i := 12) (by decide) rfl (re35T hT) re35PH re35I (fun _ => rfl) (hJ.ph.pure (by decide) (by decide) (by decide) (by decide))
    · refine wpOp_of rfl rfl ?_
      go_simp
      exact hJ.step (i := 13) (by decide) rfl (re35T hT) re35PH re35I (fun _ => rfl) (hJ.ph.pure (by decide) (by decide) (by decide) (by decide))
    · refine wpOp_of rfl rfl ?_
      go_simp
      exact hJ.step (i := 14) (by decide) rfl (re35T hT) re35PH re35I (fun _ => rfl) (hJ.ph.pure (by decide) (by decide) (by decide) (by decide))
    · have e258 : tm[258]? = some (.slice (some ⟨B20, 0, none⟩) 4 4) := hJ.val 13 (by decide) rfl (by simp [hpre])
      have e259 : tm[259]? = some (.int .i64 i) := hJ.val 14 (by decide) rfl (by simp [hpre])
      refine wpOp_of rfl rfl ?_
      go_simp
      exact hJ.step (i := 15) (by decide) rfl (re35T hT) re35PH re35I (fun _ => rfl) (hJ.ph.pure (by decide) (by decide) (by decide) (by decide))
    · have e260 : tm[260]? = some (.pointer (some ⟨B20, i * 2, none⟩)) := hJ.val 15 (by decide) rfl (by simp [hpre])
      obtain ⟨x0, x2, y0, y1, z0, z1⟩ := hc _ hJ.ph.1
      refine wpOp_of rfl rfl ?_
      go_simp
      exact hJ.step (i := 16) (by decide) rfl (re35T hT) re35PH re35I (fun _ => rfl) (hJ.ph.pure (by decide) (by decide) (by decide) (by decide))
    · have e248 : tm[248]? = some (.pointer (some ⟨b, 0, none⟩)) := hJ.val 3 (by decide) rfl (by simp [hpre])
      have e255 : tm[255]? = some (.agg #[.int .i64 ri, .int .u32 rg]) := hJ.val 10 (by decide) rfl (by simp [hpre])
      have e257 : tm[257]? = some (.int .i64 c4) := hJ.val 12 (by decide) rfl (by simp [hpre])
      have e261 : tm[261]? = some (.agg #[.int .i64 bs, .int .u32 bg]) := hJ.val 16 (by decide) rfl (by simp [hpre])
      have hz := hJ.ph.2.1
      rw [hfi, if_neg (by decide)] at hz
      refine wpOp_of rfl rfl ?_
      go_simp
      go_at_call 20
      refine (hcall _ hz).mono ?_
      rintro e w' ⟨rfl, hz2, hk⟩
      go_simp
      exact hJ.step (i := 17) (by decide) rfl (re35T hT) re35PH re35I (fun _ => rfl) (hJ.ph.call (by decide) (by decide) (by decide) hS hz2 hk)
    · have e262 : tm[262]? = some (.tuple #[.agg #[.int .i64 q.1, .int .u32 q.2], .int .i64 E]) := hJ.val 17 (by decide) rfl (by simp [hpre])
      refine wpOp_of rfl rfl ?_
      go_simp
      exact hJ.step (i := 18) (by decide) rfl (re35T hT) re35PH re35I (fun _ => rfl) (hJ.ph.pure (by decide) (by decide) (by decide) (by decide))
    · have e244 : tm[244]? = some (.tuple #[.agg #[.int .i64 q.1, .int .u32 q.2], .int .i64 E]) := hJ.val 18 (by decide) rfl (by simp [hpre])
      refine wpOp_of rfl rfl ?_
      go_simp
      exact hJ.step (i := 19) (by decide) rfl (re35T hT) re35PH re35I (fun _ => rfl) (hJ.ph.pure (by decide) (by decide) (by decide) (by decide))
    · have e244 : tm[244]? = some (.tuple #[.agg #[.int .i64 q.1, .int .u32 q.2], .int .i64 E]) := hJ.val 18 (by decide) rfl (by simp [hpre])
      refine wpOp_of rfl rfl ?_
      go_simp
      exact hJ.step (i := 20) (by decide) rfl (re35T hT) re35PH re35I (fun _ => rfl) (hJ.ph.pure (by decide) (by decide) (by decide) (by decide))
    · refine wpOp_of rfl rfl ?_
      go_simp
      refine hJ.step (i := 21) (by decide) rfl (re35T hT) re35PH re35I (fun h => by cases h) (hJ.ph.alloc (by decide) (by decide) ?_ (by rw [hJ.sz, hT]; decide) za1 za2)
      cases c : f 22 with
      | false => rfl
      | true => exact absurd (by simp [cls c] : f 21 = true) (by rw [hfi]; decide)
    · have hfa : f 21 = true := by simp [hpre]
      have e263 : tm[263]? = some (.agg #[.int .i64 q.1, .int .u32 q.2]) := hJ.val 19 (by decide) rfl (by simp [hpre])
      obtain ⟨B, b1, b2, b3⟩ := hJ.ph.2.2 hfa
      rw [hfi] at b2
      have b2 : Bk W B 34 (rfc (0, 0)) := b2
      obtain ⟨x0, x1⟩ := b2.rf
      obtain ⟨z0, z1⟩ := b2.rfz
      have hfc : f 17 = true := by simp [hpre]
      refine wpOp_of rfl rfl ?_
      go_simp
      exact hJ.nodst (i := 22) rfl (hJ.ph.store (by decide) (by decide) hfc b1 b2 b3 zs)
  · rintro f a W ⟨tm, rfl, hJ⟩ hal
    have e264 : tm[264]? = some (.int .i64 E) := hJ.val 20 (by decide) rfl (hal 20 (by decide))
    refine wpOp_of rfl rfl ?_
    go_simp
    obtain ⟨hk, hz, hb⟩ := hJ.ph
    rw [hal 17 (by decide), if_pos rfl] at hz
    obtain ⟨B, b1, b2, b3⟩ := hb (hal 21 (by decide))
    rw [hal 22 (by decide), if_pos rfl] at b2
    have := hQ (fun k => (tm[re35D k]?).getD undef) B W hk hz b2 b3 (by show (tm[32]?).getD undef = _; rw [b1]; rfl)
    rw [show ([(245, (fun k => (tm[re35D k]?).getD undef) 0), (246, (fun k => (tm[re35D k]?).getD undef) 1), (247, (fun k => (tm[re35D k]?).getD undef) 2), (248, (fun k => (tm[re35D k]?).getD undef) 3), (249, (fun k => (tm[re35D k]?).getD undef) 4), (250, (fun k => (tm[re35D k]?).getD undef) 5), (251, (fun k => (tm[re35D k]?).getD undef) 6), (252, (fun k => (tm[re35D k]?).getD undef) 7), (253, (fun k => (tm[re35D k]?).getD undef) 8), (254, (fun k => (tm[re35D k]?).getD undef) 9), (255, (fun k => (tm[re35D k]?).getD undef) 10), (256, (fun k => (tm[re35D k]?).getD undef) 11), (257, (fun k => (tm[re35D k]?).getD undef) 12), (258, (fun k => (tm[re35D k]?).getD undef) 13), (259, (fun k => (tm[re35D k]?).getD undef) 14), (260, (fun k => (tm[re35D k]?).getD undef) 15), (261, (fun k => (tm[re35D k]?).getD undef) 16), (262, (fun k => (tm[re35D k]?).getD undef) 17), (244, (fun k => (tm[re35D k]?).getD undef) 18), (263, (fun k => (tm[re35D k]?).getD undef) 19), (264, (fun k => (tm[re35D k]?).getD undef) 20), (32, (fun k => (tm[re35D k]?).getD undef) 21), (33, .int .i64 E)] : List (Nat × Value)) = asl 23 re35D re35H (fun k => (tm[re35D k]?).getD undef) ++ [(33, .int .i64 E)] from rfl, frmL_snoc, ← List.setIfInBounds_toArray, ← frm_list, ← hJ.frame (re35T hT) re35I] at this
    exact this
def re36D : Nat → Nat := fun k => ([266, 267, 268, 269, 270, 271, 272, 273, 274, 275, 276, 277, 278, 279, 280, 265, 281, 282, 34, 0] : List Nat).getD k 0
def re36H : Nat → Bool := fun k => ([true, true, true, true, true, true, true, true, true, true, true, true, true, true, true, true, true, true, true, false] : List Bool).getD k false
def re36P : Nat → Bool := fun k => ([true, true, true, true, true, true, true, true, true, true, true, true, true, true, true, true, true, true, false, false] : List Bool).getD k false
def re36V (mb b g n cR y ri rg : Nat) (nn cm : Int) (q : Rf) (E : Int) : Nat → Value := fun k => ([.pointer (some ⟨mb, 0, none⟩), .pointer (some ⟨mb, 0, none⟩), .pointer (some ⟨mb, 0, none⟩), .pointer (some ⟨b, 0, none⟩), .pointer (some ⟨mb, 0, none⟩), .pointer (some ⟨mb, 0, none⟩), .pointer (some ⟨mb, 2, none⟩), .slice (some ⟨g, 0, none⟩) n cR, .int .i64 y, .pointer (some ⟨g, y * 2, none⟩), .agg #[.int .i64 ri, .int .u32 rg], .int .i64 nn, .int .i64 cm, .agg #[.int .i64 0, .int .u32 0], .tuple #[.agg #[.int .i64 q.1, .int .u32 q.2], .int .i64 E], .tuple #[.agg #[.int .i64 q.1, .int .u32 q.2], .int .i64 E], .agg #[.int .i64 q.1, .int .u32 q.2], .int .i64 E, undef, undef] : List Value).getD k undef
theorem re36T {T : Array Value} (hT : T.size = 335) : ∀ k, k < 20 → re36H k = true → re36D k < T.size := by rw [hT]; decide
theorem re36I : ∀ j k, j < 20 → k < 20 → re36H j = true → re36H k = true → re36D j = re36D k → j = k := fun j k hj hk => (by decide : ∀ j, j < 20 → ∀ k, k < 20 → re36H j = true → re36H k = true → re36D j = re36D k → j = k) j hj k hk
theorem re36PH : ∀ k, k < 20 → re36P k = true → re36H k = true := by decide
set_option maxHeartbeats 4000000 in
set_option maxRecDepth 100000 in
theorem re36_region {id : Nat} {Q : Exit → Act → World → Prop} {T : Array Value} {w1 : World} (mb b g n cR y ri rg : Nat) (nn cm : Int) (hy : y < n) (hcm : IntKind.i64.wrap (-1 - nn) = cm) {S : Nat → Prop} {Z1 Z2 : World → Prop} (q : Rf) (E : Int)
    (hT : T.size = 335) (h7 : T[7]? = some (.pointer (some ⟨mb, 0, none⟩))) (h29 : T[29]? = some (.int .i64 y)) (h9 : T[9]? = some (.int .i64 nn))
    (hz0 : Z1 w1.drew) (za1 : ∀ W o, Z1 W → Z1 (W.alloc o)) (za2 : ∀ W o, Z2 W → Z2 (W.alloc o)) (zs : ∀ W c u v, w1.heap.size ≤ c → (∃ cs, Bk W c 34 cs) → Z2 W → Z2 ((W.setCell ⟨c, 0, none⟩ u).setCell ⟨c, 1, none⟩ v)) (hS : ∀ g, S g → g < w1.heap.size)
    (hc : ∀ W, Kept S w1 W → W.cell? ⟨mb, 0, none⟩ = some (.pointer (some ⟨b, 0, none⟩)) ∧ W.cell? ⟨mb, 2, none⟩ = some (.slice (some ⟨g, 0, none⟩) n cR) ∧ W.cell? ⟨g, y * 2, none⟩ = some (.int .i64 ri) ∧ W.cell? ⟨g, y * 2 + 1, none⟩ = some (.int .u32 rg))
    (hcall : ∀ W, Z1 W → Calls Try.prog 20 #[.pointer (some ⟨b, 0, none⟩), .agg #[.int .i64 ri, .int .u32 rg], .int .i64 cm, .agg #[.int .i64 0, .int .u32 0]] W fun e w' => e = .returned (.tuple #[.agg #[.int .i64 q.1, .int .u32 q.2], .int .i64 E]) ∧ Z2 w' ∧ Kept S W w')
    (hQ : ∀ (us : Nat → Value) (B : Nat) (W : World), Kept S w1 W → Z2 W → Bk W B 34 (rfc q) → w1.heap.size ≤ B → us 18 = .pointer (some ⟨B, 0, none⟩) → Q .normal ⟨(frmL [(266, us 0), (267, us 1), (268, us 2), (269, us 3), (270, us 4), (271, us 5), (272, us 6), (273, us 7), (274, us 8), (275, us 9), (276, us 10), (277, us 11), (278, us 12), (279, us 13), (280, us 14), (265, us 15), (281, us 16), (282, us 17), (34, us 18), (35, .int .i64 E)] T.toList).toArray, []⟩ W) :
    (Code.region id #[{ dst := some 266, op := Op.move (Operand.tmp 7), type := 61, pos := "outright.go:217", after := #[], guard := none }, { dst := some 267, op := Op.nilCheck (Operand.tmp 266), type := 0, pos := "outright.go:217", after := #[{ on := 0, ground := Ground.data }], guard := none }, { dst := some 268, op := Op.fieldAddr 68 (Operand.tmp 267) 0, type := 0, pos := "outright.go:217", after := #[{ on := 1, ground := Ground.data }], guard := none }, { dst := some 269, op := Op.load 25 (Operand.tmp 268), type := 25, pos := "outright.go:217", after := #[{ on := 2, ground := Ground.data }], guard := none }, { dst := some 270, op := Op.move (Operand.tmp 7), type := 61, pos := "outright.go:217", after := #[], guard := none }, { dst := some 271, op := Op.nilCheck (Operand.tmp 270), type := 0, pos := "outright.go:217", after := #[{ on := 4, ground := Ground.data }], guard := none }, { dst := some 272, op := Op.fieldAddr 68 (Operand.tmp 271) 2, type := 0, pos := "outright.go:217", after := #[{ on := 5, ground := Ground.data }], guard := none }, { dst := some 273, op := Op.load 32 (Operand.tmp 272), type := 32, pos := "outright.go:217", after := #[{ on := 6, ground := Ground.data }], guard := none }, { dst := some 274, op := Op.move (Operand.tmp 29), type := 3, pos := "outright.go:217", after := #[], guard := none }, { dst := some 275, op := Op.indexAddr 32 (Operand.tmp 273) (Operand.tmp 274), type := 0, pos := "outright.go:217", after := #[{ on := 7, ground := Ground.data }, { on := 8, ground := Ground.data }], guard := none }, { dst := some 276, op := Op.load 34 (Operand.tmp 275), type := 34, pos := "outright.go:217", after := #[{ on := 9, ground := Ground.data }], guard := none }, { dst := some 277, op := Op.move (Operand.tmp 9), type := 3, pos := "outright.go:217", after := #[], guard := none }, { dst := some 278, op := Op.binOp BinOp.sub 3 (Operand.const (Value.int IntKind.i64 (-1))) (Operand.tmp 277) 3, type := 3, pos := "outright.go:217", after := #[{ on := 11, ground := Ground.data }], guard := none }, { dst := some 279, op := Op.build 34 #[], type := 34, pos := "outright.go:217", after := #[], guard := none }, { dst := some 280, op := Op.call { callee := Callee.value (Operand.func 20), args := #[Operand.tmp 269, Operand.tmp 276, Operand.tmp 278, Operand.tmp 279], argTypes := #[25, 34, 3, 34] }, type := 37, pos := "outright.go:217", after := #[{ on := 3, ground := Ground.data }, { on := 10, ground := Ground.data }, { on := 12, ground := Ground.data }, { on := 13, ground := Ground.data }], guard := none }, { dst := some 265, op := Op.move (Operand.tmp 280), type := 37, pos := "outright.go:217", after := #[{ on := 14, ground := Ground.data }], guard := none }, { dst := some 281, op := Op.extract (Operand.tmp 265) 0, type := 34, pos := "outright.go:217", after := #[{ on := 15, ground := Ground.data }], guard := none }, { dst := some 282, op := Op.extract (Operand.tmp 265) 1, type := 26, pos := "outright.go:217", after := #[{ on := 15, ground := Ground.data }, { on := 19, ground := Ground.gcOnly Departure.lateStores }], guard := none }, { dst := some 34, op := Op.alloc 34, type := 0, pos := "outright.go:217", after := #[], guard := none }, { dst := none, op := Op.store 34 (Operand.tmp 34) (Operand.tmp 281), type := 0, pos := "outright.go:217", after := #[{ on := 18, ground := Ground.data }, { on := 16, ground := Ground.data }, { on := 14, ground := Ground.chain }, { on := 0, ground := Ground.phase }, { on := 1, ground := Ground.phase }, { on := 2, ground := Ground.phase }, { on := 3, ground := Ground.phase }, { on := 4, ground := Ground.phase }, { on := 5, ground := Ground.phase }, { on := 6, ground := Ground.phase }, { on := 7, ground := Ground.phase }, { on := 8, ground := Ground.phase }, { on := 9, ground := Ground.phase }, { on := 10, ground := Ground.phase }, { on := 11, ground := Ground.phase }, { on := 12, ground := Ground.phase }, { on := 13, ground := Ground.phase }, { on := 14, ground := Ground.phase }, { on := 15, ground := Ground.phase }, { on := 16, ground := Ground.phase }, { on := 17, ground := Ground.textOnly Departure.lateStores }, { on := 18, ground := Ground.phase }], guard := none }, { dst := some 35, op := Op.assign (Operand.tmp 282), type := 26, pos := "outright.go:217", after := #[{ on := 17, ground := Ground.data }, { on := 19, ground := Ground.chain }, { on := 0, ground := Ground.phase }, { on := 1, ground := Ground.phase }, { on := 2, ground := Ground.phase }, { on := 3, ground := Ground.phase }, { on := 4, ground := Ground.phase }, { on := 5, ground := Ground.phase }, { on := 6, ground := Ground.phase }, { on := 7, ground := Ground.phase }, { on := 8, ground := Ground.phase }, { on := 9, ground := Ground.phase }, { on := 10, ground := Ground.phase }, { on := 11, ground := Ground.phase }, { on := 12, ground := Ground.phase }, { on := 13, ground := Ground.phase }, { on := 14, ground := Ground.phase }, { on := 15, ground := Ground.phase }, { on := 16, ground := Ground.phase }, { on := 17, ground := Ground.phase }, { on := 18, ground := Ground.phase }, { on := 19, ground := Ground.phase }], guard := none }] true).wp Try.prog Q ⟨T, []⟩ w1 := by
  refine region_last 20 (fun f a W => ∃ tm, a = ⟨tm, []⟩ ∧ JR 20 re36D re36H re36P (re36V mb b g n cR y ri rg nn cm q E) T (PHc w1 S Z1 Z2 14 18 19 34 34 (rfc (0, 0)) (rfc q)) f tm W) (by kernel_rfl) rfl ?_ ?_ ?_ ?_ ?_
  · intro i o ho
    rcases i with _ | _ | _ | _ | _ | _ | _ | _ | _ | _ | _ | _ | _ | _ | _ | _ | _ | _ | _ | _ | _ | i
    all_goals simp at ho
    all_goals subst ho
    all_goals simp [Region.binds]
  · intro f hcl hp i hi
    have h1 := hp _ rfl
    simp [Region.binds] at h1
    rcases i with _ | _ | _ | _ | _ | _ | _ | _ | _ | _ | _ | _ | _ | _ | _ | _ | _ | _ | _ | _ | i
    all_goals try simp only [Nat.zero_add, Nat.reduceAdd] at hi ⊢
    all_goals first | omega | simp [h1]
  · exact ⟨T, rfl, rfl, fun _ _ => rfl, (fun k _ _ h => by cases h), (Kept.refl _ _).drew, hz0, (fun h => by cases h)⟩
  · rintro f a W ⟨tm, rfl, hJ⟩ hcl i o ho hi hfi hpre
    have k7 := (hJ.old 7 (by decide)).trans h7
    have k29 := (hJ.old 29 (by decide)).trans h29
    have k9 := (hJ.old 9 (by decide)).trans h9
    have cls := fun h => hcl 19 _ rfl h
    have clc := fun h => hcl 14 _ rfl h
    simp [Region.binds] at cls clc
    clear hcl
    rcases i with _ | _ | _ | _ | _ | _ | _ | _ | _ | _ | _ | _ | _ | _ | _ | _ | _ | _ | _ | _ | i
    rotate_right
    · exfalso; omega
    all_goals try simp only [Nat.zero_add, Nat.reduceAdd] at hfi ho ⊢
    all_goals simp at ho
    all_goals subst ho
    all_goals simp [Region.binds] at hpre
    all_goals clear hi
    · refine wpOp_of rfl rfl ?_
      go_simp
      exact hJ.step (i := 0) (by decide) rfl (re36T hT) re36PH re36I (fun _ => rfl) (hJ.ph.pure (by decide) (by decide) (by decide) (by decide))
    · have e266 : tm[266]? = some (.pointer (some ⟨mb, 0, none⟩)) := hJ.val 0 (by decide) rfl (by simp [hpre])
      refine wpOp_of rfl rfl ?_
      go_simp
      exact hJ.step (i := 1) (by decide) rfl (re36T hT) re36PH re36I (fun _ => rfl) (hJ.ph.pure (by decide) (by decide) (by decide) (by decide))
    · have e267 : tm[267]? = some (.pointer (some ⟨mb, 0, none⟩)) := hJ.val 1 (by decide) rfl (by simp [hpre])
      refine wpOp_of rfl rfl ?_
      go_simp
      exact hJ.step (i := 2) (by decide) rfl (re36T hT) re36PH re36I (fun _ => rfl) (hJ.ph.pure (by decide) (by decide) (by decide) (by decide))
    · have e268 : tm[268]? = some (.pointer (some ⟨mb, 0, none⟩)) := hJ.val 2 (by decide) rfl (by simp [hpre])
      obtain ⟨x0, x2, y0, y1⟩ := hc _ hJ.ph.1
      refine wpOp_of rfl rfl ?_
      go_simp
      exact hJ.step (i := 3) (by decide) rfl (re36T hT) re36PH re36I (fun _ => rfl) (hJ.ph.pure (by decide) (by decide) (by decide) (by decide))
    · refine wpOp_of rfl rfl ?_
      go_simp
      exact hJ.step (i := 4) (by decide) rfl (re36T hT) re36PH re36I (fun _ => rfl) (hJ.ph.pure (by decide) (by decide) (by decide) (by decide))
    · have e270 : tm[270]? = some (.pointer (some ⟨mb, 0, none⟩)) := hJ.val 4 (by decide) rfl (by simp [hpre])
      refine wpOp_of rfl rfl ?_
      go_simp
      exact hJ.step (i := 5) (by decide) rfl (re36T hT) re36PH re36I (fun _ => rfl) (hJ.ph.pure (by decide) (by decide) (by decide) (by decide))
    · have e271 : tm[271]? = some (.pointer (some ⟨mb, 0, none⟩)) := hJ.val 5 (by decide) rfl (by simp [hpre])
      refine wpOp_of rfl rfl ?_
      go_simp
      exact hJ.step (i := 6) (by decide) rfl (re36T hT) re36PH re36I (fun _ => rfl) (hJ.ph.pure (by decide) (by decide) (by decide) (by decide))
    · have e272 : tm[272]? = some (.pointer (some ⟨mb, 2, none⟩)) := hJ.val 6 (by decide) rfl (by simp [hpre])
      obtain ⟨x0, x2, y0, y1⟩ := hc _ hJ.ph.1
      refine wpOp_of rfl rfl ?_
      go_simp
      exact hJ.step (i := 7) (by decide) rfl (re36T hT) re36PH re36I (fun _ => rfl) (hJ.ph.pure (by decide) (by decide) (by decide) (by decide))
    · refine wpOp_of rfl rfl ?_
      go_simp
      exact hJ.step (i := 8) (by decide) rfl (re36T hT) re36PH re36I (fun _ => rfl) (hJ.ph.pure (by decide) (by decide) (by decide) (by decide))
    · have e273 : tm[273]? = some (.slice (some ⟨g, 0, none⟩) n cR) := hJ.val 7 (by decide) rfl (by simp [hpre])
      have e274 : tm[274]? = some (.int .i64 y) := hJ.val 8 (by decide) rfl (by simp [hpre])
      refine wpOp_of rfl rfl ?_
      go_simp
      exact hJ.step (i := 9) (by decide) rfl (re36T hT) re36PH re36I (fun _ => rfl) (hJ.ph.pure (by decide) (by decide) (by decide) (by decide))
    · have e275 : tm[275]? = some (.pointer (some ⟨g, y * 2, none⟩)) := hJ.val 9 (by decide) rfl (by simp [hpre])
      obtain ⟨x0, x2, y0, y1⟩ := hc _ hJ.ph.1
      refine wpOp_of rfl rfl ?_
      go_simp
      exact hJ.step (i := 10) (by decide) rfl (re36T hT) re36PH re36I (fun _ => rfl) (hJ.ph.pure (by decide) (by decide) (by decide) (by decide))
    · refine wpOp_of rfl rfl ?_
      go_simp
      exact hJ.step (i := 11) (by decide) rfl (re36T hT) re36PH re36I (fun _ => rfl) (hJ.ph.pure (by decide) (by decide) (by decide) (by decide))
    · have e277 : tm[277]? = some (.int .i64 nn) := hJ.val 11 (by decide) rfl (by simp [hpre])
      refine wpOp_of rfl rfl ?_
      go_simp
      exact hJ.step (i := 12) (by decide) rfl (re36T hT) re36PH re36I (fun _ => rfl) (hJ.ph.pure (by decide) (by decide) (by decide) (by decide))
    · refine wpOp_of rfl rfl ?_
      go_simp
      exact hJ.step (i := 13) (by decide) rfl (re36T hT) re36PH re36I (fun _ => rfl) (hJ.ph.pure (by decide) (by decide) (by decide) (by decide))
    · have e269 : tm[269]? = some (.pointer (some ⟨b, 0, none⟩)) := hJ.val 3 (by decide) rfl (by simp [hpre])
      have e276 : tm[276]? = some (.agg #[.int .i64 ri, .int .u32 rg]) := hJ.val 10 (by decide) rfl (by simp [hpre])
      have e278 : tm[278]? = some (.int .i64 cm) := hJ.val 12 (by decide) rfl (by simp [hpre])
      have e279 : tm[279]? = some (.agg #[.int .i64 0, .int .u32 0]) := hJ.val 13 (by decide) rfl (by simp [hpre])
      have hz := hJ.ph.2.1
      rw [hfi, if_neg (by decide)] at hz
      refine wpOp_of rfl rfl ?_
      go_simp
      go_at_call 20
      refine (hcall _ hz).mono ?_
      rintro e w' ⟨rfl, hz2, hk⟩
      go_simp
      exact hJ.step (i := 14) (by decide) rfl (re36T hT) re36PH re36I (fun _ => rfl) (hJ.ph.call (by decide) (by decide) (by decide) hS hz2 hk)
    · have e280 : tm[280]? = some (.tuple #[.agg #[.int .i64 q.1, .int .u32 q.2], .int .i64 E]) := hJ.val 14 (by decide) rfl (by simp [hpre])
      refine wpOp_of rfl rfl ?_
      go_simp
      exact hJ.step (i := 15) (by decide) rfl (re36T hT) re36PH re36I (fun _ => rfl) (hJ.ph.pure (by decide) (by decide) (by decide) (by decide))
    · have e265 : tm[265]? = some (.tuple #[.agg #[.int .i64 q.1, .int .u32 q.2], .int .i64 E]) := hJ.val 15 (by decide) rfl (by simp [hpre])
      refine wpOp_of rfl rfl ?_
      go_simp
      exact hJ.step (i := 16) (by decide) rfl (re36T hT) re36PH re36I (fun _ => rfl) (hJ.ph.pure (by decide) (by decide) (by decide) (by decide))
    · have e265 : tm[265]? = some (.tuple #[.agg #[.int .i64 q.1, .int .u32 q.2], .int .i64 E]) := hJ.val 15 (by decide) rfl (by simp [hpre])
      refine wpOp_of rfl rfl ?_
      go_simp
      exact hJ.step (i := 17) (by decide) rfl (re36T hT) re36PH re36I (fun _ => rfl) (hJ.ph.pure (by decide) (by decide) (by decide) (by decide))
    · refine wpOp_of rfl rfl ?_
      go_simp
      refine hJ.step (i := 18) (by decide) rfl (re36T hT) re36PH re36I (fun h => by cases h) (hJ.ph.alloc (by decide) (by decide) ?_ (by rw [hJ.sz, hT]; decide) za1 za2)
      cases c : f 19 with
      | false => rfl
      | true => exact absurd (by simp [cls c] : f 18 = true) (by rw [hfi]; decide)
    · have hfa : f 18 = true := by simp [hpre]
      have e281 : tm[281]? = some (.agg #[.int .i64 q.1, .int .u32 q.2]) := hJ.val 16 (by decide) rfl (by simp [hpre])
      obtain ⟨B, b1, b2, b3⟩ := hJ.ph.2.2 hfa
      rw [hfi] at b2
      have b2 : Bk W B 34 (rfc (0, 0)) := b2
      obtain ⟨x0, x1⟩ := b2.rf
      obtain ⟨z0, z1⟩ := b2.rfz
      have hfc : f 14 = true := by simp [hpre]
      refine wpOp_of rfl rfl ?_
      go_simp
      exact hJ.nodst (i := 19) rfl (hJ.ph.store (by decide) (by decide) hfc b1 b2 b3 zs)
  · rintro f a W ⟨tm, rfl, hJ⟩ hal
    have e282 : tm[282]? = some (.int .i64 E) := hJ.val 17 (by decide) rfl (hal 17 (by decide))
    refine wpOp_of rfl rfl ?_
    go_simp
    obtain ⟨hk, hz, hb⟩ := hJ.ph
    rw [hal 14 (by decide), if_pos rfl] at hz
    obtain ⟨B, b1, b2, b3⟩ := hb (hal 18 (by decide))
    rw [hal 19 (by decide), if_pos rfl] at b2
    have := hQ (fun k => (tm[re36D k]?).getD undef) B W hk hz b2 b3 (by show (tm[34]?).getD undef = _; rw [b1]; rfl)
    rw [show ([(266, (fun k => (tm[re36D k]?).getD undef) 0), (267, (fun k => (tm[re36D k]?).getD undef) 1), (268, (fun k => (tm[re36D k]?).getD undef) 2), (269, (fun k => (tm[re36D k]?).getD undef) 3), (270, (fun k => (tm[re36D k]?).getD undef) 4), (271, (fun k => (tm[re36D k]?).getD undef) 5), (272, (fun k => (tm[re36D k]?).getD undef) 6), (273, (fun k => (tm[re36D k]?).getD undef) 7), (274, (fun k => (tm[re36D k]?).getD undef) 8), (275, (fun k => (tm[re36D k]?).getD undef) 9), (276, (fun k => (tm[re36D k]?).getD undef) 10), (277, (fun k => (tm[re36D k]?).getD undef) 11), (278, (fun k => (tm[re36D k]?).getD undef) 12), (279, (fun k => (tm[re36D k]?).getD undef) 13), (280, (fun k => (tm[re36D k]?).getD undef) 14), (265, (fun k => (tm[re36D k]?).getD undef) 15), (281, (fun k => (tm[re36D k]?).getD undef) 16), (282, (fun k => (tm[re36D k]?).getD undef) 17), (34, (fun k => (tm[re36D k]?).getD undef) 18), (35, .int .i64 E)] : List (Nat × Value)) = asl 20 re36D re36H (fun k => (tm[re36D k]?).getD undef) ++ [(35, .int .i64 E)] from rfl, frmL_snoc, ← List.setIfInBounds_toArray, ← frm_list, ← hJ.frame (re36T hT) re36I] at this
    exact this
end Go.Proofs.Ytfnhkapbfgofkaa
