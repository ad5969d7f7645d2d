/- The drawn regions of the model's turn that call, whatever the frame. -/
import Derived.Test.YtfnhkapbfgofkaaWu
import Derived.Test.YtfnhkapbfgofkaaNh
namespace Go.Proofs.Ytfnhkapbfgofkaa
open Go.RowKit

def raD : Nat → Nat := fun k => ([29, 30, 31, 32, 33, 34, 35, 36, 37, 38, 39, 40, 41, 42, 43, 44, 45, 46, 47, 28, 48, 49, 6, 0] : List Nat).getD k 0
def raH : Nat → Bool := fun k => ([true, true, true, true, true, true, true, true, true, true, true, true, true, true, true, true, true, true, true, true, true, true, true, false] : List Bool).getD k false
def raP : Nat → Bool := fun k => ([true, true, true, true, true, true, true, true, true, true, true, true, true, true, true, true, true, true, true, true, true, true, false, false] : List Bool).getD k false
def raV (mb b TB I K m k2 : Nat) (q : Rf) (E : Int) : Nat → Value := fun k => ([.pointer (some ⟨mb, 0, none⟩), .pointer (some ⟨mb, 0, none⟩), .pointer (some ⟨mb, 0, none⟩), .pointer (some ⟨b, 0, none⟩), .pointer (some ⟨TB, 1, none⟩), .int .u8 I, .int .u8 m, .int .i64 m, .pointer (some ⟨TB, 1, none⟩), .int .u8 I, .int .u8 m, .bool true, .bool true, .pointer (some ⟨TB, 2, none⟩), .int .u8 K, .int .u8 k2, .bool ((k2 : Int) == 1), .bool ((k2 : Int) == 1), .tuple #[.agg #[.int .i64 q.1, .int .u32 q.2], .int .i64 E], .tuple #[.agg #[.int .i64 q.1, .int .u32 q.2], .int .i64 E], .agg #[.int .i64 q.1, .int .u32 q.2], .int .i64 E, undef, undef] : List Value).getD k undef
theorem raT {T : Array Value} (hT : T.size = 246) : ∀ k, k < 24 → raH k = true → raD k < T.size := by rw [hT]; decide
theorem raI : ∀ j k, j < 24 → k < 24 → raH j = true → raH k = true → raD j = raD k → j = k := fun j k hj hk => (by decide : ∀ j, j < 24 → ∀ k, k < 24 → raH j = true → raH k = true → raD j = raD k → j = k) j hj k hk
theorem raPH : ∀ k, k < 24 → raP k = true → raH k = true := by decide
set_option maxHeartbeats 4000000 in
set_option maxRecDepth 100000 in
theorem ra_region {id : Nat} {Q : Exit → Act → World → Prop} {T : Array Value} {w1 : World} (mb b TB I K m k2 : Nat) (hI5 : (I : Int).tmod 5 = m) (hK2 : (K : Int).tmod 2 = k2) (hm4 : (m : Int) ≤ 4) (hmb : ((m : Int) == 0) = true) {S : Nat → Prop} {Z1 Z2 : World → Prop} (q : Rf) (E : Int)
    (hT : T.size = 246) (h0 : T[0]? = some (.pointer (some ⟨mb, 0, none⟩))) (h3 : T[3]? = some (.pointer (some ⟨TB, 0, none⟩)))
    (hz0 : Z1 w1.drew) (za1 : ∀ W o, Z1 W → Z1 (W.alloc o)) (za2 : ∀ W o, Z2 W → Z2 (W.alloc o)) (zs : ∀ W c u v, w1.heap.size ≤ c → (∃ cs, Bk W c 34 cs) → Z2 W → Z2 ((W.setCell ⟨c, 0, none⟩ u).setCell ⟨c, 1, none⟩ v)) (hS : ∀ g, S g → g < w1.heap.size)
    (hc : ∀ W, Kept S w1 W → W.cell? ⟨mb, 0, none⟩ = some (.pointer (some ⟨b, 0, none⟩)) ∧ W.cell? ⟨TB, 1, none⟩ = some (.int .u8 I) ∧ W.cell? ⟨TB, 2, none⟩ = some (.int .u8 K))
    (hcall : ∀ W, Z1 W → Calls Try.prog 14 #[.pointer (some ⟨b, 0, none⟩), .int .i64 m, .bool ((k2 : Int) == 1)] W fun e w' => e = .returned (.tuple #[.agg #[.int .i64 q.1, .int .u32 q.2], .int .i64 E]) ∧ Z2 w' ∧ Kept S W w')
    (hQ : ∀ (us : Nat → Value) (B : Nat) (W : World), Kept S w1 W → Z2 W → Bk W B 34 (rfc q) → w1.heap.size ≤ B → us 22 = .pointer (some ⟨B, 0, none⟩) → Q .normal ⟨(frm 24 raD raH us T).setIfInBounds 7 (.int .i64 E), []⟩ W) :
    (Code.region id #[{ dst := some 29, op := Op.move (Operand.tmp 0), type := 61, pos := "outright.go:33", after := #[], guard := none }, { dst := some 30, op := Op.nilCheck (Operand.tmp 29), type := 0, pos := "outright.go:33", after := #[{ on := 0, ground := Ground.data }], guard := none }, { dst := some 31, op := Op.fieldAddr 68 (Operand.tmp 30) 0, type := 0, pos := "outright.go:33", after := #[{ on := 1, ground := Ground.data }], guard := none }, { dst := some 32, op := Op.load 25 (Operand.tmp 31), type := 25, pos := "outright.go:33", after := #[{ on := 2, ground := Ground.data }], guard := none }, { dst := some 33, op := Op.fieldAddr 65 (Operand.tmp 3) 1, type := 0, pos := "outright.go:33", after := #[], guard := none }, { dst := some 34, op := Op.load 5 (Operand.tmp 33), type := 5, pos := "outright.go:33", after := #[{ on := 4, ground := Ground.data }], guard := none }, { dst := some 35, op := Op.binOp BinOp.rem 5 (Operand.tmp 34) (Operand.const (Value.int IntKind.u8 5)) 5, type := 5, pos := "outright.go:33", after := #[{ on := 5, ground := Ground.data }], guard := none }, { dst := some 36, op := Op.convert 5 3 (Operand.tmp 35), type := 3, pos := "outright.go:33", after := #[{ on := 6, ground := Ground.data }], guard := none }, { dst := some 37, op := Op.fieldAddr 65 (Operand.tmp 3) 1, type := 0, pos := "outright.go:33", after := #[], guard := none }, { dst := some 38, op := Op.load 5 (Operand.tmp 37), type := 5, pos := "outright.go:33", after := #[{ on := 8, ground := Ground.data }], guard := none }, { dst := some 39, op := Op.binOp BinOp.rem 5 (Operand.tmp 38) (Operand.const (Value.int IntKind.u8 5)) 5, type := 5, pos := "outright.go:33", after := #[{ on := 9, ground := Ground.data }], guard := none }, { dst := some 40, op := Op.binOp BinOp.eql 5 (Operand.tmp 39) (Operand.const (Value.int IntKind.u8 0)) 5, type := 4, pos := "outright.go:33", after := #[{ on := 10, ground := Ground.data }], guard := none }, { dst := some 41, op := Op.move (Operand.tmp 40), type := 4, pos := "outright.go:33", after := #[{ on := 11, ground := Ground.data }], guard := none }, { dst := some 42, op := Op.fieldAddr 65 (Operand.tmp 3) 2, type := 0, pos := "outright.go:33", after := #[{ on := 12, ground := Ground.guard }], guard := some (12, true) }, { dst := some 43, op := Op.load 5 (Operand.tmp 42), type := 5, pos := "outright.go:33", after := #[{ on := 13, ground := Ground.data }, { on := 12, ground := Ground.guard }], guard := some (12, true) }, { dst := some 44, op := Op.binOp BinOp.rem 5 (Operand.tmp 43) (Operand.const (Value.int IntKind.u8 2)) 5, type := 5, pos := "outright.go:33", after := #[{ on := 14, ground := Ground.data }, { on := 12, ground := Ground.guard }], guard := some (12, true) }, { dst := some 45, op := Op.binOp BinOp.eql 5 (Operand.tmp 44) (Operand.const (Value.int IntKind.u8 1)) 5, type := 4, pos := "outright.go:33", after := #[{ on := 15, ground := Ground.data }, { on := 12, ground := Ground.guard }], guard := some (12, true) }, { dst := some 46, op := Op.pick (Operand.tmp 41) (Operand.tmp 45) (Operand.const (Value.bool false)), type := 4, pos := "outright.go:33", after := #[{ on := 12, ground := Ground.data }, { on := 16, ground := Ground.data }], guard := none }, { dst := some 47, op := Op.call { callee := Callee.value (Operand.func 14), args := #[Operand.tmp 32, Operand.tmp 36, Operand.tmp 46], argTypes := #[25, 3, 4] }, type := 37, pos := "outright.go:33", after := #[{ on := 3, ground := Ground.data }, { on := 7, ground := Ground.data }, { on := 17, ground := Ground.data }, { on := 12, ground := Ground.chain }], guard := none }, { dst := some 28, op := Op.move (Operand.tmp 47), type := 37, pos := "outright.go:33", after := #[{ on := 18, ground := Ground.data }], guard := none }, { dst := some 48, op := Op.extract (Operand.tmp 28) 0, type := 34, pos := "outright.go:33", after := #[{ on := 19, ground := Ground.data }], guard := none }, { dst := some 49, op := Op.extract (Operand.tmp 28) 1, type := 26, pos := "outright.go:33", after := #[{ on := 19, ground := Ground.data }, { on := 23, ground := Ground.gcOnly Departure.lateStores }], guard := none }, { dst := some 6, op := Op.alloc 34, type := 0, pos := "outright.go:33", after := #[], guard := none }, { dst := none, op := Op.store 34 (Operand.tmp 6) (Operand.tmp 48), type := 0, pos := "outright.go:33", after := #[{ on := 22, ground := Ground.data }, { on := 20, ground := Ground.data }, { on := 18, ground := Ground.chain }, { on := 0, ground := Ground.phase }, { on := 1, ground := Ground.phase }, { on := 2, ground := Ground.phase }, { on := 3, ground := Ground.phase }, { on := 4, ground := Ground.phase }, { on := 5, ground := Ground.phase }, { on := 6, ground := Ground.phase }, { on := 7, ground := Ground.phase }, { on := 8, ground := Ground.phase }, { on := 9, ground := Ground.phase }, { on := 10, ground := Ground.phase }, { on := 11, ground := Ground.phase }, { on := 12, ground := Ground.phase }, { on := 13, ground := Ground.phase }, { on := 14, ground := Ground.phase }, { on := 15, ground := Ground.phase }, { on := 16, ground := Ground.phase }, { on := 17, ground := Ground.phase }, { on := 18, ground := Ground.phase }, { on := 19, ground := Ground.phase }, { on := 20, ground := Ground.phase }, { on := 21, ground := Ground.textOnly Departure.lateStores }, { on := 22, ground := Ground.phase }], guard := none }, { dst := some 7, op := Op.assign (Operand.tmp 49), type := 26, pos := "outright.go:33", after := #[{ on := 21, ground := Ground.data }, { on := 23, ground := Ground.chain }, { on := 0, ground := Ground.phase }, { on := 1, ground := Ground.phase }, { on := 2, ground := Ground.phase }, { on := 3, ground := Ground.phase }, { on := 4, ground := Ground.phase }, { on := 5, ground := Ground.phase }, { on := 6, ground := Ground.phase }, { on := 7, ground := Ground.phase }, { on := 8, ground := Ground.phase }, { on := 9, ground := Ground.phase }, { on := 10, ground := Ground.phase }, { on := 11, ground := Ground.phase }, { on := 12, ground := Ground.phase }, { on := 13, ground := Ground.phase }, { on := 14, ground := Ground.phase }, { on := 15, ground := Ground.phase }, { on := 16, ground := Ground.phase }, { on := 17, ground := Ground.phase }, { on := 18, ground := Ground.phase }, { on := 19, ground := Ground.phase }, { on := 20, ground := Ground.phase }, { on := 21, ground := Ground.phase }, { on := 22, ground := Ground.phase }, { on := 23, ground := Ground.phase }], guard := none }] true).wp Try.prog Q ⟨T, []⟩ w1 := by
  have hwm : IntKind.i64.wrap (m : Int) = m := by rw [IntKind.wrap_i64]; omega
  refine region_last 24 (fun f a W => ∃ tm, a = ⟨tm, []⟩ ∧ JR 24 raD raH raP (raV mb b TB I K m k2 q E) T (PHc w1 S Z1 Z2 18 22 23 6 34 (rfc (0, 0)) (rfc q)) f tm W) (by kernel_rfl) rfl ?_ ?_ ?_ ?_ ?_
  · intro i o ho
    rcases i with _ | _ | _ | _ | _ | _ | _ | _ | _ | _ | _ | _ | _ | _ | _ | _ | _ | _ | _ | _ | _ | _ | _ | _ | _ | i
    all_goals simp at ho
    all_goals subst ho
    all_goals simp [Region.binds]
  · intro f hcl hp i hi
    have h1 := hp _ rfl
    simp [Region.binds] at h1
    rcases i with _ | _ | _ | _ | _ | _ | _ | _ | _ | _ | _ | _ | _ | _ | _ | _ | _ | _ | _ | _ | _ | _ | _ | _ | i
    all_goals try simp only [Nat.zero_add, Nat.reduceAdd] at hi ⊢
    all_goals first | omega | simp [h1]
  · exact ⟨T, rfl, rfl, fun _ _ => rfl, (fun k _ _ h => by cases h), (Kept.refl _ _).drew, hz0, (fun h => by cases h)⟩
  · rintro f a W ⟨tm, rfl, hJ⟩ hcl i o ho hi hfi hpre
    have k0 := (hJ.old 0 (by decide)).trans h0
    have k3 := (hJ.old 3 (by decide)).trans h3
    have cls := fun h => hcl 23 _ rfl h
    have clc := fun h => hcl 18 _ rfl h
    simp [Region.binds] at cls clc
    clear hcl
    rcases i with _ | _ | _ | _ | _ | _ | _ | _ | _ | _ | _ | _ | _ | _ | _ | _ | _ | _ | _ | _ | _ | _ | _ | _ | i
    rotate_right
    · exfalso; omega
    all_goals try simp only [Nat.zero_add, Nat.reduceAdd] at hfi ho ⊢
    all_goals simp at ho
    all_goals subst ho
    all_goals simp [Region.binds] at hpre
    all_goals clear hi
    · refine wpOp_of rfl rfl ?_
      go_simp
      exact hJ.step (i := 0) (by decide) rfl (raT hT) raPH raI (fun _ => rfl) (hJ.ph.pure (by decide) (by decide) (by decide) (by decide))
    · have e29 : tm[29]? = some (.pointer (some ⟨mb, 0, none⟩)) := hJ.val 0 (by decide) rfl (by simp [hpre])
      refine wpOp_of rfl rfl ?_
      go_simp
      exact hJ.step (i := 1) (by decide) rfl (raT hT) raPH raI (fun _ => rfl) (hJ.ph.pure (by decide) (by decide) (by decide) (by decide))
    · have e30 : tm[30]? = some (.pointer (some ⟨mb, 0, none⟩)) := hJ.val 1 (by decide) rfl (by simp [hpre])
      refine wpOp_of rfl rfl ?_
      go_simp
      exact hJ.step (i := 2) (by decide) rfl (raT hT) raPH raI (fun _ => rfl) (hJ.ph.pure (by decide) (by decide) (by decide) (by decide))
    · have e31 : tm[31]? = some (.pointer (some ⟨mb, 0, none⟩)) := hJ.val 2 (by decide) rfl (by simp [hpre])
      obtain ⟨x0, x1, x2⟩ := hc _ hJ.ph.1
      refine wpOp_of rfl rfl ?_
      go_simp
      exact hJ.step (i := 3) (by decide) rfl (raT hT) raPH raI (fun _ => rfl) (hJ.ph.pure (by decide) (by decide) (by decide) (by decide))
    · refine wpOp_of rfl rfl ?_
      go_simp
      exact hJ.step (i := 4) (by decide) rfl (raT hT) raPH raI (fun _ => rfl) (hJ.ph.pure (by decide) (by decide) (by decide) (by decide))
    · have e33 : tm[33]? = some (.pointer (some ⟨TB, 1, none⟩)) := hJ.val 4 (by decide) rfl (by simp [hpre])
      obtain ⟨x0, x1, x2⟩ := hc _ hJ.ph.1
      refine wpOp_of rfl rfl ?_
      go_simp
      exact hJ.step (i := 5) (by decide) rfl (raT hT) raPH raI (fun _ => rfl) (hJ.ph.pure (by decide) (by decide) (by decide) (by decide))
    · have e34 : tm[34]? = some (.int .u8 I) := hJ.val 5 (by decide) rfl (by simp [hpre])
      refine wpOp_of rfl rfl ?_
      go_simp
      exact hJ.step (i := 6) (by decide) rfl (raT hT) raPH raI (fun _ => rfl) (hJ.ph.pure (by decide) (by decide) (by decide) (by decide))
    · have e35 : tm[35]? = some (.int .u8 m) := hJ.val 6 (by decide) rfl (by simp [hpre])
      refine wpOp_of rfl rfl ?_
      go_simp
      exact hJ.step (i := 7) (by decide) rfl (raT hT) raPH raI (fun _ => rfl) (hJ.ph.pure (by decide) (by decide) (by decide) (by decide))
    · refine wpOp_of rfl rfl ?_
      go_simp
      exact hJ.step (i := 8) (by decide) rfl (raT hT) raPH raI (fun _ => rfl) (hJ.ph.pure (by decide) (by decide) (by decide) (by decide))
    · have e37 : tm[37]? = some (.pointer (some ⟨TB, 1, none⟩)) := hJ.val 8 (by decide) rfl (by simp [hpre])
      obtain ⟨x0, x1, x2⟩ := hc _ hJ.ph.1
      refine wpOp_of rfl rfl ?_
      go_simp
      exact hJ.step (i := 9) (by decide) rfl (raT hT) raPH raI (fun _ => rfl) (hJ.ph.pure (by decide) (by decide) (by decide) (by decide))
    · have e38 : tm[38]? = some (.int .u8 I) := hJ.val 9 (by decide) rfl (by simp [hpre])
      refine wpOp_of rfl rfl ?_
      go_simp
      exact hJ.step (i := 10) (by decide) rfl (raT hT) raPH raI (fun _ => rfl) (hJ.ph.pure (by decide) (by decide) (by decide) (by decide))
    · have e39 : tm[39]? = some (.int .u8 m) := hJ.val 10 (by decide) rfl (by simp [hpre])
      refine wpOp_of rfl rfl ?_
      go_simp
      exact hJ.step (i := 11) (by decide) rfl (raT hT) raPH raI (fun _ => rfl) (hJ.ph.pure (by decide) (by decide) (by decide) (by decide))
    · have e40 : tm[40]? = some (.bool true) := hJ.val 11 (by decide) rfl (by simp [hpre])
      refine wpOp_of rfl rfl ?_
      go_simp
      exact hJ.step (i := 12) (by decide) rfl (raT hT) raPH raI (fun _ => rfl) (hJ.ph.pure (by decide) (by decide) (by decide) (by decide))
    · have eg : tm[41]? = some (.bool true) := hJ.val 12 (by decide) rfl (by simp [hpre])
      refine wpOp_yes rfl (by simp [Region.wanted, yielded, eg, Option.bind]) ?_
      go_simp
      exact hJ.step (i := 13) (by decide) rfl (raT hT) raPH raI (fun _ => rfl) (hJ.ph.pure (by decide) (by decide) (by decide) (by decide))
    · have e42 : tm[42]? = some (.pointer (some ⟨TB, 2, none⟩)) := hJ.val 13 (by decide) rfl (by simp [hpre])
      obtain ⟨x0, x1, x2⟩ := hc _ hJ.ph.1
      have eg : tm[41]? = some (.bool true) := hJ.val 12 (by decide) rfl (by simp [hpre])
      refine wpOp_yes rfl (by simp [Region.wanted, yielded, eg, Option.bind]) ?_
      go_simp
      exact hJ.step (i := 14) (by decide) rfl (raT hT) raPH raI (fun _ => rfl) (hJ.ph.pure (by decide) (by decide) (by decide) (by decide))
    · have e43 : tm[43]? = some (.int .u8 K) := hJ.val 14 (by decide) rfl (by simp [hpre])
      have eg : tm[41]? = some (.bool true) := hJ.val 12 (by decide) rfl (by simp [hpre])
      refine wpOp_yes rfl (by simp [Region.wanted, yielded, eg, Option.bind]) ?_
      go_simp
      exact hJ.step (i := 15) (by decide) rfl (raT hT) raPH raI (fun _ => rfl) (hJ.ph.pure (by decide) (by decide) (by decide) (by decide))
    · have e44 : tm[44]? = some (.int .u8 k2) := hJ.val 15 (by decide) rfl (by simp [hpre])
      have eg : tm[41]? = some (.bool true) := hJ.val 12 (by decide) rfl (by simp [hpre])
      refine wpOp_yes rfl (by simp [Region.wanted, yielded, eg, Option.bind]) ?_
      go_simp
      exact hJ.step (i := 16) (by decide) rfl (raT hT) raPH raI (fun _ => rfl) (hJ.ph.pure (by decide) (by decide) (by decide) (by decide))
    · have e41 : tm[41]? = some (.bool true) := hJ.val 12 (by decide) rfl (by simp [hpre])
      have e45 : tm[45]? = some (.bool ((k2 : Int) == 1)) := hJ.val 16 (by decide) rfl (by simp [hpre])
      refine wpOp_of rfl rfl ?_
      go_simp
      exact hJ.step (i := 17) (by decide) rfl (raT hT) raPH raI (fun _ => rfl) (hJ.ph.pure (by decide) (by decide) (by decide) (by decide))
    · have e32 : tm[32]? = some (.pointer (some ⟨b, 0, none⟩)) := hJ.val 3 (by decide) rfl (by simp [hpre])
      have e36 : tm[36]? = some (.int .i64 m) := hJ.val 7 (by decide) rfl (by simp [hpre])
      have e46 : tm[46]? = some (.bool ((k2 : Int) == 1)) := hJ.val 17 (by decide) rfl (by simp [hpre])
      have hz := hJ.ph.2.1
      rw [hfi, if_neg (by decide)] at hz
      refine wpOp_of rfl rfl ?_
      go_simp
      go_at_call 14
      refine (hcall _ hz).mono ?_
      rintro e w' ⟨rfl, hz2, hk⟩
      go_simp
      exact hJ.step (i := 18) (by decide) rfl (raT hT) raPH raI (fun _ => rfl) (hJ.ph.call (by decide) (by decide) (by decide) hS hz2 hk)
    · have e47 : tm[47]? = some (.tuple #[.agg #[.int .i64 q.1, .int .u32 q.2], .int .i64 E]) := hJ.val 18 (by decide) rfl (by simp [hpre])
      refine wpOp_of rfl rfl ?_
      go_simp
      exact hJ.step (i := 19) (by decide) rfl (raT hT) raPH raI (fun _ => rfl) (hJ.ph.pure (by decide) (by decide) (by decide) (by decide))
    · have e28 : tm[28]? = some (.tuple #[.agg #[.int .i64 q.1, .int .u32 q.2], .int .i64 E]) := hJ.val 19 (by decide) rfl (by simp [hpre])
      refine wpOp_of rfl rfl ?_
      go_simp
      exact hJ.step (i := 20) (by decide) rfl (raT hT) raPH raI (fun _ => rfl) (hJ.ph.pure (by decide) (by decide) (by decide) (by decide))
    · have e28 : tm[28]? = some (.tuple #[.agg #[.int .i64 q.1, .int .u32 q.2], .int .i64 E]) := hJ.val 19 (by decide) rfl (by simp [hpre])
      refine wpOp_of rfl rfl ?_
      go_simp
      exact hJ.step (i := 21) (by decide) rfl (raT hT) raPH raI (fun _ => rfl) (hJ.ph.pure (by decide) (by decide) (by decide) (by decide))
    · refine wpOp_of rfl rfl ?_
      go_simp
      refine hJ.step (i := 22) (by decide) rfl (raT hT) raPH raI (fun h => by cases h) (hJ.ph.alloc (by decide) (by decide) ?_ (by rw [hJ.sz, hT]; decide) za1 za2)
      cases c : f 23 with
      | false => rfl
      | true => exact absurd (by simp [cls c] : f 22 = true) (by rw [hfi]; decide)
    · have hfa : f 22 = true := by simp [hpre]
      have e48 : tm[48]? = some (.agg #[.int .i64 q.1, .int .u32 q.2]) := hJ.val 20 (by decide) rfl (by simp [hpre])
      obtain ⟨B, b1, b2, b3⟩ := hJ.ph.2.2 hfa
      rw [hfi] at b2
      have b2 : Bk W B 34 (rfc (0, 0)) := b2
      obtain ⟨x0, x1⟩ := b2.rf
      obtain ⟨z0, z1⟩ := b2.rfz
      have hfc : f 18 = true := by simp [hpre]
      refine wpOp_of rfl rfl ?_
      go_simp
      exact hJ.nodst (i := 23) rfl (hJ.ph.store (by decide) (by decide) hfc b1 b2 b3 zs)
  · rintro f a W ⟨tm, rfl, hJ⟩ hal
    have e49 : tm[49]? = some (.int .i64 E) := hJ.val 21 (by decide) rfl (hal 21 (by decide))
    refine wpOp_of rfl rfl ?_
    go_simp
    obtain ⟨hk, hz, hb⟩ := hJ.ph
    rw [hal 18 (by decide), if_pos rfl] at hz
    obtain ⟨B, b1, b2, b3⟩ := hb (hal 22 (by decide))
    rw [hal 23 (by decide), if_pos rfl] at b2
    have := hQ (fun k => (tm[raD k]?).getD undef) B W hk hz b2 b3 (by show (tm[6]?).getD undef = _; rw [b1]; rfl)
    rw [← hJ.frame (raT hT) raI] at this
    exact this
def rbD : Nat → Nat := fun k => ([29, 30, 31, 32, 33, 34, 35, 36, 37, 38, 39, 40, 41, 42, 43, 44, 45, 46, 47, 28, 48, 49, 6, 0] : List Nat).getD k 0
def rbH : Nat → Bool := fun k => ([true, true, true, true, true, true, true, true, true, true, true, true, true, true, true, true, true, true, true, true, true, true, true, false] : List Bool).getD k false
def rbP : Nat → Bool := fun k => ([true, true, true, true, true, true, true, true, true, true, true, true, true, false, false, false, false, true, true, true, true, true, false, false] : List Bool).getD k false
def rbV (mb b TB I _K m _k2 : Nat) (q : Rf) (E : Int) : Nat → Value := fun k => ([.pointer (some ⟨mb, 0, none⟩), .pointer (some ⟨mb, 0, none⟩), .pointer (some ⟨mb, 0, none⟩), .pointer (some ⟨b, 0, none⟩), .pointer (some ⟨TB, 1, none⟩), .int .u8 I, .int .u8 m, .int .i64 m, .pointer (some ⟨TB, 1, none⟩), .int .u8 I, .int .u8 m, .bool false, .bool false, undef, undef, undef, undef, .bool false, .tuple #[.agg #[.int .i64 q.1, .int .u32 q.2], .int .i64 E], .tuple #[.agg #[.int .i64 q.1, .int .u32 q.2], .int .i64 E], .agg #[.int .i64 q.1, .int .u32 q.2], .int .i64 E, undef, undef] : List Value).getD k undef
theorem rbT {T : Array Value} (hT : T.size = 246) : ∀ k, k < 24 → rbH k = true → rbD k < T.size := by rw [hT]; decide
theorem rbI : ∀ j k, j < 24 → k < 24 → rbH j = true → rbH k = true → rbD j = rbD k → j = k := fun j k hj hk => (by decide : ∀ j, j < 24 → ∀ k, k < 24 → rbH j = true → rbH k = true → rbD j = rbD k → j = k) j hj k hk
theorem rbPH : ∀ k, k < 24 → rbP k = true → rbH k = true := by decide
set_option maxHeartbeats 4000000 in
set_option maxRecDepth 100000 in
theorem rb_region {id : Nat} {Q : Exit → Act → World → Prop} {T : Array Value} {w1 : World} (mb b TB I K m k2 : Nat) (hI5 : (I : Int).tmod 5 = m) (_ : (K : Int).tmod 2 = k2) (hm4 : (m : Int) ≤ 4) (hmb : ((m : Int) == 0) = false) {S : Nat → Prop} {Z1 Z2 : World → Prop} (q : Rf) (E : Int)
    (hT : T.size = 246) (h0 : T[0]? = some (.pointer (some ⟨mb, 0, none⟩))) (h3 : T[3]? = some (.pointer (some ⟨TB, 0, none⟩)))
    (hz0 : Z1 w1.drew) (za1 : ∀ W o, Z1 W → Z1 (W.alloc o)) (za2 : ∀ W o, Z2 W → Z2 (W.alloc o)) (zs : ∀ W c u v, w1.heap.size ≤ c → (∃ cs, Bk W c 34 cs) → Z2 W → Z2 ((W.setCell ⟨c, 0, none⟩ u).setCell ⟨c, 1, none⟩ v)) (hS : ∀ g, S g → g < w1.heap.size)
    (hc : ∀ W, Kept S w1 W → W.cell? ⟨mb, 0, none⟩ = some (.pointer (some ⟨b, 0, none⟩)) ∧ W.cell? ⟨TB, 1, none⟩ = some (.int .u8 I) ∧ W.cell? ⟨TB, 2, none⟩ = some (.int .u8 K))
    (hcall : ∀ W, Z1 W → Calls Try.prog 14 #[.pointer (some ⟨b, 0, none⟩), .int .i64 m, .bool false] W fun e w' => e = .returned (.tuple #[.agg #[.int .i64 q.1, .int .u32 q.2], .int .i64 E]) ∧ Z2 w' ∧ Kept S W w')
    (hQ : ∀ (us : Nat → Value) (B : Nat) (W : World), Kept S w1 W → Z2 W → Bk W B 34 (rfc q) → w1.heap.size ≤ B → us 22 = .pointer (some ⟨B, 0, none⟩) → Q .normal ⟨(frm 24 rbD rbH us T).setIfInBounds 7 (.int .i64 E), []⟩ W) :
    (Code.region id #[{ dst := some 29, op := Op.move (Operand.tmp 0), type := 61, pos := "outright.go:33", after := #[], guard := none }, { dst := some 30, op := Op.nilCheck (Operand.tmp 29), type := 0, pos := "outright.go:33", after := #[{ on := 0, ground := Ground.data }], guard := none }, { dst := some 31, op := Op.fieldAddr 68 (Operand.tmp 30) 0, type := 0, pos := "outright.go:33", after := #[{ on := 1, ground := Ground.data }], guard := none }, { dst := some 32, op := Op.load 25 (Operand.tmp 31), type := 25, pos := "outright.go:33", after := #[{ on := 2, ground := Ground.data }], guard := none }, { dst := some 33, op := Op.fieldAddr 65 (Operand.tmp 3) 1, type := 0, pos := "outright.go:33", after := #[], guard := none }, { dst := some 34, op := Op.load 5 (Operand.tmp 33), type := 5, pos := "outright.go:33", after := #[{ on := 4, ground := Ground.data }], guard := none }, { dst := some 35, op := Op.binOp BinOp.rem 5 (Operand.tmp 34) (Operand.const (Value.int IntKind.u8 5)) 5, type := 5, pos := "outright.go:33", after := #[{ on := 5, ground := Ground.data }], guard := none }, { dst := some 36, op := Op.convert 5 3 (Operand.tmp 35), type := 3, pos := "outright.go:33", after := #[{ on := 6, ground := Ground.data }], guard := none }, { dst := some 37, op := Op.fieldAddr 65 (Operand.tmp 3) 1, type := 0, pos := "outright.go:33", after := #[], guard := none }, { dst := some 38, op := Op.load 5 (Operand.tmp 37), type := 5, pos := "outright.go:33", after := #[{ on := 8, ground := Ground.data }], guard := none }, { dst := some 39, op := Op.binOp BinOp.rem 5 (Operand.tmp 38) (Operand.const (Value.int IntKind.u8 5)) 5, type := 5, pos := "outright.go:33", after := #[{ on := 9, ground := Ground.data }], guard := none }, { dst := some 40, op := Op.binOp BinOp.eql 5 (Operand.tmp 39) (Operand.const (Value.int IntKind.u8 0)) 5, type := 4, pos := "outright.go:33", after := #[{ on := 10, ground := Ground.data }], guard := none }, { dst := some 41, op := Op.move (Operand.tmp 40), type := 4, pos := "outright.go:33", after := #[{ on := 11, ground := Ground.data }], guard := none }, { dst := some 42, op := Op.fieldAddr 65 (Operand.tmp 3) 2, type := 0, pos := "outright.go:33", after := #[{ on := 12, ground := Ground.guard }], guard := some (12, true) }, { dst := some 43, op := Op.load 5 (Operand.tmp 42), type := 5, pos := "outright.go:33", after := #[{ on := 13, ground := Ground.data }, { on := 12, ground := Ground.guard }], guard := some (12, true) }, { dst := some 44, op := Op.binOp BinOp.rem 5 (Operand.tmp 43) (Operand.const (Value.int IntKind.u8 2)) 5, type := 5, pos := "outright.go:33", after := #[{ on := 14, ground := Ground.data }, { on := 12, ground := Ground.guard }], guard := some (12, true) }, { dst := some 45, op := Op.binOp BinOp.eql 5 (Operand.tmp 44) (Operand.const (Value.int IntKind.u8 1)) 5, type := 4, pos := "outright.go:33", after := #[{ on := 15, ground := Ground.data }, { on := 12, ground := Ground.guard }], guard := some (12, true) }, { dst := some 46, op := Op.pick (Operand.tmp 41) (Operand.tmp 45) (Operand.const (Value.bool false)), type := 4, pos := "outright.go:33", after := #[{ on := 12, ground := Ground.data }, { on := 16, ground := Ground.data }], guard := none }, { dst := some 47, op := Op.call { callee := Callee.value (Operand.func 14), args := #[Operand.tmp 32, Operand.tmp 36, Operand.tmp 46], argTypes := #[25, 3, 4] }, type := 37, pos := "outright.go:33", after := #[{ on := 3, ground := Ground.data }, { on := 7, ground := Ground.data }, { on := 17, ground := Ground.data }, { on := 12, ground := Ground.chain }], guard := none }, { dst := some 28, op := Op.move (Operand.tmp 47), type := 37, pos := "outright.go:33", after := #[{ on := 18, ground := Ground.data }], guard := none }, { dst := some 48, op := Op.extract (Operand.tmp 28) 0, type := 34, pos := "outright.go:33", after := #[{ on := 19, ground := Ground.data }], guard := none }, { dst := some 49, op := Op.extract (Operand.tmp 28) 1, type := 26, pos := "outright.go:33", after := #[{ on := 19, ground := Ground.data }, { on := 23, ground := Ground.gcOnly Departure.lateStores }], guard := none }, { dst := some 6, op := Op.alloc 34, type := 0, pos := "outright.go:33", after := #[], guard := none }, { dst := none, op := Op.store 34 (Operand.tmp 6) (Operand.tmp 48), type := 0, pos := "outright.go:33", after := #[{ on := 22, ground := Ground.data }, { on := 20, ground := Ground.data }, { on := 18, ground := Ground.chain }, { on := 0, ground := Ground.phase }, { on := 1, ground := Ground.phase }, { on := 2, ground := Ground.phase }, { on := 3, ground := Ground.phase }, { on := 4, ground := Ground.phase }, { on := 5, ground := Ground.phase }, { on := 6, ground := Ground.phase }, { on := 7, ground := Ground.phase }, { on := 8, ground := Ground.phase }, { on := 9, ground := Ground.phase }, { on := 10, ground := Ground.phase }, { on := 11, ground := Ground.phase }, { on := 12, ground := Ground.phase }, { on := 13, ground := Ground.phase }, { on := 14, ground := Ground.phase }, { on := 15, ground := Ground.phase }, { on := 16, ground := Ground.phase }, { on := 17, ground := Ground.phase }, { on := 18, ground := Ground.phase }, { on := 19, ground := Ground.phase }, { on := 20, ground := Ground.phase }, { on := 21, ground := Ground.textOnly Departure.lateStores }, { on := 22, ground := Ground.phase }], guard := none }, { dst := some 7, op := Op.assign (Operand.tmp 49), type := 26, pos := "outright.go:33", after := #[{ on := 21, ground := Ground.data }, { on := 23, ground := Ground.chain }, { on := 0, ground := Ground.phase }, { on := 1, ground := Ground.phase }, { on := 2, ground := Ground.phase }, { on := 3, ground := Ground.phase }, { on := 4, ground := Ground.phase }, { on := 5, ground := Ground.phase }, { on := 6, ground := Ground.phase }, { on := 7, ground := Ground.phase }, { on := 8, ground := Ground.phase }, { on := 9, ground := Ground.phase }, { on := 10, ground := Ground.phase }, { on := 11, ground := Ground.phase }, { on := 12, ground := Ground.phase }, { on := 13, ground := Ground.phase }, { on := 14, ground := Ground.phase }, { on := 15, ground := Ground.phase }, { on := 16, ground := Ground.phase }, { on := 17, ground := Ground.phase }, { on := 18, ground := Ground.phase }, { on := 19, ground := Ground.phase }, { on := 20, ground := Ground.phase }, { on := 21, ground := Ground.phase }, { on := 22, ground := Ground.phase }, { on := 23, ground := Ground.phase }], guard := none }] true).wp Try.prog Q ⟨T, []⟩ w1 := by
  have hwm : IntKind.i64.wrap (m : Int) = m := by rw [IntKind.wrap_i64]; omega
  refine region_last 24 (fun f a W => ∃ tm, a = ⟨tm, []⟩ ∧ JR 24 rbD rbH rbP (rbV mb b TB I K m k2 q E) T (PHc w1 S Z1 Z2 18 22 23 6 34 (rfc (0, 0)) (rfc q)) f tm W) (by kernel_rfl) rfl ?_ ?_ ?_ ?_ ?_
  · intro i o ho
    rcases i with _ | _ | _ | _ | _ | _ | _ | _ | _ | _ | _ | _ | _ | _ | _ | _ | _ | _ | _ | _ | _ | _ | _ | _ | _ | i
    all_goals simp at ho
    all_goals subst ho
    all_goals simp [Region.binds]
  · intro f hcl hp i hi
    have h1 := hp _ rfl
    simp [Region.binds] at h1
    rcases i with _ | _ | _ | _ | _ | _ | _ | _ | _ | _ | _ | _ | _ | _ | _ | _ | _ | _ | _ | _ | _ | _ | _ | _ | i
    all_goals try simp only [Nat.zero_add, Nat.reduceAdd] at hi ⊢
    all_goals first | omega | simp [h1]
  · exact ⟨T, rfl, rfl, fun _ _ => rfl, (fun k _ _ h => by cases h), (Kept.refl _ _).drew, hz0, (fun h => by cases h)⟩
  · rintro f a W ⟨tm, rfl, hJ⟩ hcl i o ho hi hfi hpre
    have k0 := (hJ.old 0 (by decide)).trans h0
    have k3 := (hJ.old 3 (by decide)).trans h3
    have cls := fun h => hcl 23 _ rfl h
    have clc := fun h => hcl 18 _ rfl h
    simp [Region.binds] at cls clc
    clear hcl
    rcases i with _ | _ | _ | _ | _ | _ | _ | _ | _ | _ | _ | _ | _ | _ | _ | _ | _ | _ | _ | _ | _ | _ | _ | _ | i
    rotate_right
    · exfalso; omega
    all_goals try simp only [Nat.zero_add, Nat.reduceAdd] at hfi ho ⊢
    all_goals simp at ho
    all_goals subst ho
    all_goals simp [Region.binds] at hpre
    all_goals clear hi
    · refine wpOp_of rfl rfl ?_
      go_simp
      exact hJ.step (i := 0) (by decide) rfl (rbT hT) rbPH rbI (fun _ => rfl) (hJ.ph.pure (by decide) (by decide) (by decide) (by decide))
    · have e29 : tm[29]? = some (.pointer (some ⟨mb, 0, none⟩)) := hJ.val 0 (by decide) rfl (by simp [hpre])
      refine wpOp_of rfl rfl ?_
      go_simp
      exact hJ.step (i := 1) (by decide) rfl (rbT hT) rbPH rbI (fun _ => rfl) (hJ.ph.pure (by decide) (by decide) (by decide) (by decide))
    · have e30 : tm[30]? = some (.pointer (some ⟨mb, 0, none⟩)) := hJ.val 1 (by decide) rfl (by simp [hpre])
      refine wpOp_of rfl rfl ?_
      go_simp
      exact hJ.step (i := 2) (by decide) rfl (rbT hT) rbPH rbI (fun _ => rfl) (hJ.ph.pure (by decide) (by decide) (by decide) (by decide))
    · have e31 : tm[31]? = some (.pointer (some ⟨mb, 0, none⟩)) := hJ.val 2 (by decide) rfl (by simp [hpre])
      obtain ⟨x0, x1, x2⟩ := hc _ hJ.ph.1
      refine wpOp_of rfl rfl ?_
      go_simp
      exact hJ.step (i := 3) (by decide) rfl (rbT hT) rbPH rbI (fun _ => rfl) (hJ.ph.pure (by decide) (by decide) (by decide) (by decide))
    · refine wpOp_of rfl rfl ?_
      go_simp
      exact hJ.step (i := 4) (by decide) rfl (rbT hT) rbPH rbI (fun _ => rfl) (hJ.ph.pure (by decide) (by decide) (by decide) (by decide))
    · have e33 : tm[33]? = some (.pointer (some ⟨TB, 1, none⟩)) := hJ.val 4 (by decide) rfl (by simp [hpre])
      obtain ⟨x0, x1, x2⟩ := hc _ hJ.ph.1
      refine wpOp_of rfl rfl ?_
      go_simp
      exact hJ.step (i := 5) (by decide) rfl (rbT hT) rbPH rbI (fun _ => rfl) (hJ.ph.pure (by decide) (by decide) (by decide) (by decide))
    · have e34 : tm[34]? = some (.int .u8 I) := hJ.val 5 (by decide) rfl (by simp [hpre])
      refine wpOp_of rfl rfl ?_
      go_simp
      exact hJ.step (i := 6) (by decide) rfl (rbT hT) rbPH rbI (fun _ => rfl) (hJ.ph.pure (by decide) (by decide) (by decide) (by decide))
    · have e35 : tm[35]? = some (.int .u8 m) := hJ.val 6 (by decide) rfl (by simp [hpre])
      refine wpOp_of rfl rfl ?_
      go_simp
      exact hJ.step (i := 7) (by decide) rfl (rbT hT) rbPH rbI (fun _ => rfl) (hJ.ph.pure (by decide) (by decide) (by decide) (by decide))
    · refine wpOp_of rfl rfl ?_
      go_simp
      exact hJ.step (i := 8) (by decide) rfl (rbT hT) rbPH rbI (fun _ => rfl) (hJ.ph.pure (by decide) (by decide) (by decide) (by decide))
    · have e37 : tm[37]? = some (.pointer (some ⟨TB, 1, none⟩)) := hJ.val 8 (by decide) rfl (by simp [hpre])
      obtain ⟨x0, x1, x2⟩ := hc _ hJ.ph.1
      refine wpOp_of rfl rfl ?_
      go_simp
      exact hJ.step (i := 9) (by decide) rfl (rbT hT) rbPH rbI (fun _ => rfl) (hJ.ph.pure (by decide) (by decide) (by decide) (by decide))
    · have e38 : tm[38]? = some (.int .u8 I) := hJ.val 9 (by decide) rfl (by simp [hpre])
      refine wpOp_of rfl rfl ?_
      go_simp
      exact hJ.step (i := 10) (by decide) rfl (rbT hT) rbPH rbI (fun _ => rfl) (hJ.ph.pure (by decide) (by decide) (by decide) (by decide))
    · have e39 : tm[39]? = some (.int .u8 m) := hJ.val 10 (by decide) rfl (by simp [hpre])
      refine wpOp_of rfl rfl ?_
      go_simp
      exact hJ.step (i := 11) (by decide) rfl (rbT hT) rbPH rbI (fun _ => rfl) (hJ.ph.pure (by decide) (by decide) (by decide) (by decide))
    · have e40 : tm[40]? = some (.bool false) := hJ.val 11 (by decide) rfl (by simp [hpre])
      refine wpOp_of rfl rfl ?_
      go_simp
      exact hJ.step (i := 12) (by decide) rfl (rbT hT) rbPH rbI (fun _ => rfl) (hJ.ph.pure (by decide) (by decide) (by decide) (by decide))
    · have eg : tm[41]? = some (.bool false) := hJ.val 12 (by decide) rfl (by simp [hpre])
      refine wpOp_no rfl (by simp [Region.wanted, yielded, Option.bind, eg, Option.bind]) ?_
      refine ⟨_, rfl, hJ.step (i := 13) (by decide) rfl (rbT hT) rbPH rbI (fun h => by cases h) (hJ.ph.pure (by decide) (by decide) (by decide) (by decide))⟩
    · have eg : tm[41]? = some (.bool false) := hJ.val 12 (by decide) rfl (by simp [hpre])
      refine wpOp_no rfl (by simp [Region.wanted, yielded, Option.bind, eg, Option.bind]) ?_
      refine ⟨_, rfl, hJ.step (i := 14) (by decide) rfl (rbT hT) rbPH rbI (fun h => by cases h) (hJ.ph.pure (by decide) (by decide) (by decide) (by decide))⟩
    · have eg : tm[41]? = some (.bool false) := hJ.val 12 (by decide) rfl (by simp [hpre])
      refine wpOp_no rfl (by simp [Region.wanted, yielded, Option.bind, eg, Option.bind]) ?_
      refine ⟨_, rfl, hJ.step (i := 15) (by decide) rfl (rbT hT) rbPH rbI (fun h => by cases h) (hJ.ph.pure (by decide) (by decide) (by decide) (by decide))⟩
    · have eg : tm[41]? = some (.bool false) := hJ.val 12 (by decide) rfl (by simp [hpre])
      refine wpOp_no rfl (by simp [Region.wanted, yielded, Option.bind, eg, Option.bind]) ?_
      refine ⟨_, rfl, hJ.step (i := 16) (by decide) rfl (rbT hT) rbPH rbI (fun h => by cases h) (hJ.ph.pure (by decide) (by decide) (by decide) (by decide))⟩
    · have e41 : tm[41]? = some (.bool false) := hJ.val 12 (by decide) rfl (by simp [hpre])
      refine wpOp_of rfl rfl ?_
      go_simp
      exact hJ.step (i := 17) (by decide) rfl (rbT hT) rbPH rbI (fun _ => rfl) (hJ.ph.pure (by decide) (by decide) (by decide) (by decide))
    · have e32 : tm[32]? = some (.pointer (some ⟨b, 0, none⟩)) := hJ.val 3 (by decide) rfl (by simp [hpre])
      have e36 : tm[36]? = some (.int .i64 m) := hJ.val 7 (by decide) rfl (by simp [hpre])
      have e46 : tm[46]? = some (.bool false) := hJ.val 17 (by decide) rfl (by simp [hpre])
      have hz := hJ.ph.2.1
      rw [hfi, if_neg (by decide)] at hz
      refine wpOp_of rfl rfl ?_
      go_simp
      go_at_call 14
      refine (hcall _ hz).mono ?_
      rintro e w' ⟨rfl, hz2, hk⟩
      go_simp
      exact hJ.step (i := 18) (by decide) rfl (rbT hT) rbPH rbI (fun _ => rfl) (hJ.ph.call (by decide) (by decide) (by decide) hS hz2 hk)
    · have e47 : tm[47]? = some (.tuple #[.agg #[.int .i64 q.1, .int .u32 q.2], .int .i64 E]) := hJ.val 18 (by decide) rfl (by simp [hpre])
      refine wpOp_of rfl rfl ?_
      go_simp
      exact hJ.step (i := 19) (by decide) rfl (rbT hT) rbPH rbI (fun _ => rfl) (hJ.ph.pure (by decide) (by decide) (by decide) (by decide))
    · have e28 : tm[28]? = some (.tuple #[.agg #[.int .i64 q.1, .int .u32 q.2], .int .i64 E]) := hJ.val 19 (by decide) rfl (by simp [hpre])
      refine wpOp_of rfl rfl ?_
      go_simp
      exact hJ.step (i := 20) (by decide) rfl (rbT hT) rbPH rbI (fun _ => rfl) (hJ.ph.pure (by decide) (by decide) (by decide) (by decide))
    · have e28 : tm[28]? = some (.tuple #[.agg #[.int .i64 q.1, .int .u32 q.2], .int .i64 E]) := hJ.val 19 (by decide) rfl (by simp [hpre])
      refine wpOp_of rfl rfl ?_
      go_simp
      exact hJ.step (i := 21) (by decide) rfl (rbT hT) rbPH rbI (fun _ => rfl) (hJ.ph.pure (by decide) (by decide) (by decide) (by decide))
    · refine wpOp_of rfl rfl ?_
      go_simp
      refine hJ.step (i := 22) (by decide) rfl (rbT hT) rbPH rbI (fun h => by cases h) (hJ.ph.alloc (by decide) (by decide) ?_ (by rw [hJ.sz, hT]; decide) za1 za2)
      cases c : f 23 with
      | false => rfl
      | true => exact absurd (by simp [cls c] : f 22 = true) (by rw [hfi]; decide)
    · have hfa : f 22 = true := by simp [hpre]
      have e48 : tm[48]? = some (.agg #[.int .i64 q.1, .int .u32 q.2]) := hJ.val 20 (by decide) rfl (by simp [hpre])
      obtain ⟨B, b1, b2, b3⟩ := hJ.ph.2.2 hfa
      rw [hfi] at b2
      have b2 : Bk W B 34 (rfc (0, 0)) := b2
      obtain ⟨x0, x1⟩ := b2.rf
      obtain ⟨z0, z1⟩ := b2.rfz
      have hfc : f 18 = true := by simp [hpre]
      refine wpOp_of rfl rfl ?_
      go_simp
      exact hJ.nodst (i := 23) rfl (hJ.ph.store (by decide) (by decide) hfc b1 b2 b3 zs)
  · rintro f a W ⟨tm, rfl, hJ⟩ hal
    have e49 : tm[49]? = some (.int .i64 E) := hJ.val 21 (by decide) rfl (hal 21 (by decide))
    refine wpOp_of rfl rfl ?_
    go_simp
    obtain ⟨hk, hz, hb⟩ := hJ.ph
    rw [hal 18 (by decide), if_pos rfl] at hz
    obtain ⟨B, b1, b2, b3⟩ := hb (hal 22 (by decide))
    rw [hal 23 (by decide), if_pos rfl] at b2
    have := hQ (fun k => (tm[rbD k]?).getD undef) B W hk hz b2 b3 (by show (tm[6]?).getD undef = _; rw [b1]; rfl)
    rw [← hJ.frame (rbT hT) rbI] at this
    exact this
end Go.Proofs.Ytfnhkapbfgofkaa
