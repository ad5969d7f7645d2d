/- The drawn region of the model's turn that stores, whatever the frame. -/
import Derived.Test.YtfnhkapbfgofkaaWu
import Derived.Test.YtfnhkapbfgofkaaNh
namespace Go.Proofs.Ytfnhkapbfgofkaa
open Go.RowKit

def rcD : Nat → Nat := fun k => ([195, 196, 197, 198, 199, 200, 201, 202, 194, 203, 204, 15, 0] : List Nat).getD k 0
def rcH : Nat → Bool := fun k => ([true, true, true, true, true, true, true, true, true, true, true, true, false] : List Bool).getD k false
def rcP : Nat → Bool := fun k => ([true, true, true, true, true, true, true, true, true, true, true, false, false] : List Bool).getD k false
def rcV (mb b _B12 _B13 j : Nat) (ri rg vi vg : Int) (q : Rf) (E : Int) : Nat → Value := fun k => ([.pointer (some ⟨mb, 0, none⟩), .pointer (some ⟨mb, 0, none⟩), .pointer (some ⟨mb, 0, none⟩), .pointer (some ⟨b, 0, none⟩), .agg #[.int .i64 ri, .int .u32 rg], .int .i64 j, .agg #[.int .i64 vi, .int .u32 vg], .tuple #[.agg #[.int .i64 q.1, .int .u32 q.2], .int .i64 E], .tuple #[.agg #[.int .i64 q.1, .int .u32 q.2], .int .i64 E], .agg #[.int .i64 q.1, .int .u32 q.2], .int .i64 E, undef, undef] : List Value).getD k undef
theorem rcT {T : Array Value} (hT : T.size = 246) : ∀ k, k < 13 → rcH k = true → rcD k < T.size := by rw [hT]; decide
theorem rcI : ∀ j k, j < 13 → k < 13 → rcH j = true → rcH k = true → rcD j = rcD k → j = k := fun j k hj hk => (by decide : ∀ j, j < 13 → ∀ k, k < 13 → rcH j = true → rcH k = true → rcD j = rcD k → j = k) j hj k hk
theorem rcPH : ∀ k, k < 13 → rcP k = true → rcH k = true := by decide
set_option maxHeartbeats 4000000 in
set_option maxRecDepth 100000 in
theorem rc_region {id : Nat} {Q : Exit → Act → World → Prop} {T : Array Value} {w1 : World} (mb b B12 B13 j : Nat) (ri rg vi vg : Int)  {S : Nat → Prop} {Z1 Z2 : World → Prop} (q : Rf) (E : Int)
    (hT : T.size = 246) (h0 : T[0]? = some (.pointer (some ⟨mb, 0, none⟩))) (h12 : T[12]? = some (.pointer (some ⟨B12, 0, none⟩))) (h13 : T[13]? = some (.pointer (some ⟨B13, 0, none⟩))) (h14 : T[14]? = some (.int .i64 j))
    (hz0 : Z1 w1.drew) (za1 : ∀ W o, Z1 W → Z1 (W.alloc o)) (za2 : ∀ W o, Z2 W → Z2 (W.alloc o)) (zs : ∀ W c u v, w1.heap.size ≤ c → (∃ cs, Bk W c 34 cs) → Z2 W → Z2 ((W.setCell ⟨c, 0, none⟩ u).setCell ⟨c, 1, none⟩ v)) (hS : ∀ g, S g → g < w1.heap.size)
    (hc : ∀ W, Kept S w1 W → W.cell? ⟨mb, 0, none⟩ = some (.pointer (some ⟨b, 0, none⟩)) ∧ W.cell? ⟨B12, 0, none⟩ = some (.int .i64 ri) ∧ W.cell? ⟨B12, 1, none⟩ = some (.int .u32 rg) ∧ W.cell? ⟨B13, 0, none⟩ = some (.int .i64 vi) ∧ W.cell? ⟨B13, 1, none⟩ = some (.int .u32 vg))
    (hcall : ∀ W, Z1 W → Calls Try.prog 20 #[.pointer (some ⟨b, 0, none⟩), .agg #[.int .i64 ri, .int .u32 rg], .int .i64 j, .agg #[.int .i64 vi, .int .u32 vg]] W fun e w' => e = .returned (.tuple #[.agg #[.int .i64 q.1, .int .u32 q.2], .int .i64 E]) ∧ Z2 w' ∧ Kept S W w')
    (hQ : ∀ (us : Nat → Value) (B : Nat) (W : World), Kept S w1 W → Z2 W → Bk W B 34 (rfc q) → w1.heap.size ≤ B → us 11 = .pointer (some ⟨B, 0, none⟩) → Q .normal ⟨(frm 13 rcD rcH us T).setIfInBounds 16 (.int .i64 E), []⟩ W) :
    (Code.region id #[{ dst := some 195, op := Op.move (Operand.tmp 0), type := 61, pos := "outright.go:56", after := #[], guard := none }, { dst := some 196, op := Op.nilCheck (Operand.tmp 195), type := 0, pos := "outright.go:56", after := #[{ on := 0, ground := Ground.data }], guard := none }, { dst := some 197, op := Op.fieldAddr 68 (Operand.tmp 196) 0, type := 0, pos := "outright.go:56", after := #[{ on := 1, ground := Ground.data }], guard := none }, { dst := some 198, op := Op.load 25 (Operand.tmp 197), type := 25, pos := "outright.go:56", after := #[{ on := 2, ground := Ground.data }], guard := none }, { dst := some 199, op := Op.load 34 (Operand.tmp 12), type := 34, pos := "outright.go:56", after := #[], guard := none }, { dst := some 200, op := Op.move (Operand.tmp 14), type := 3, pos := "outright.go:56", after := #[], guard := none }, { dst := some 201, op := Op.load 34 (Operand.tmp 13), type := 34, pos := "outright.go:56", after := #[], guard := none }, { dst := some 202, op := Op.call { callee := Callee.value (Operand.func 20), args := #[Operand.tmp 198, Operand.tmp 199, Operand.tmp 200, Operand.tmp 201], argTypes := #[25, 34, 3, 34] }, type := 37, pos := "outright.go:56", after := #[{ on := 3, ground := Ground.data }, { on := 4, ground := Ground.data }, { on := 5, ground := Ground.data }, { on := 6, ground := Ground.data }], guard := none }, { dst := some 194, op := Op.move (Operand.tmp 202), type := 37, pos := "outright.go:56", after := #[{ on := 7, ground := Ground.data }], guard := none }, { dst := some 203, op := Op.extract (Operand.tmp 194) 0, type := 34, pos := "outright.go:56", after := #[{ on := 8, ground := Ground.data }], guard := none }, { dst := some 204, op := Op.extract (Operand.tmp 194) 1, type := 26, pos := "outright.go:56", after := #[{ on := 8, ground := Ground.data }, { on := 12, ground := Ground.gcOnly Departure.lateStores }], guard := none }, { dst := some 15, op := Op.alloc 34, type := 0, pos := "outright.go:56", after := #[], guard := none }, { dst := none, op := Op.store 34 (Operand.tmp 15) (Operand.tmp 203), type := 0, pos := "outright.go:56", after := #[{ on := 11, ground := Ground.data }, { on := 9, ground := Ground.data }, { on := 7, ground := Ground.chain }, { on := 0, ground := Ground.phase }, { on := 1, ground := Ground.phase }, { on := 2, ground := Ground.phase }, { on := 3, ground := Ground.phase }, { on := 4, ground := Ground.phase }, { on := 5, ground := Ground.phase }, { on := 6, ground := Ground.phase }, { on := 7, ground := Ground.phase }, { on := 8, ground := Ground.phase }, { on := 9, ground := Ground.phase }, { on := 10, ground := Ground.textOnly Departure.lateStores }, { on := 11, ground := Ground.phase }], guard := none }, { dst := some 16, op := Op.assign (Operand.tmp 204), type := 26, pos := "outright.go:56", after := #[{ on := 10, ground := Ground.data }, { on := 12, ground := Ground.chain }, { on := 0, ground := Ground.phase }, { on := 1, ground := Ground.phase }, { on := 2, ground := Ground.phase }, { on := 3, ground := Ground.phase }, { on := 4, ground := Ground.phase }, { on := 5, ground := Ground.phase }, { on := 6, ground := Ground.phase }, { on := 7, ground := Ground.phase }, { on := 8, ground := Ground.phase }, { on := 9, ground := Ground.phase }, { on := 10, ground := Ground.phase }, { on := 11, ground := Ground.phase }, { on := 12, ground := Ground.phase }], guard := none }] true).wp Try.prog Q ⟨T, []⟩ w1 := by
  refine region_last 13 (fun f a W => ∃ tm, a = ⟨tm, []⟩ ∧ JR 13 rcD rcH rcP (rcV mb b B12 B13 j ri rg vi vg q E) T (PHc w1 S Z1 Z2 7 11 12 15 34 (rfc (0, 0)) (rfc q)) f tm W) (by kernel_rfl) rfl ?_ ?_ ?_ ?_ ?_
  · intro i o ho
    rcases i with _ | _ | _ | _ | _ | _ | _ | _ | _ | _ | _ | _ | _ | _ | i
    all_goals simp at ho
    all_goals subst ho
    all_goals simp [Region.binds]
  · intro f hcl hp i hi
    have h1 := hp _ rfl
    simp [Region.binds] at h1
    rcases i with _ | _ | _ | _ | _ | _ | _ | _ | _ | _ | _ | _ | _ | i
    all_goals try simp only [Nat.zero_add, Nat.reduceAdd] at hi ⊢
    all_goals first | omega | simp [h1]
  · exact ⟨T, rfl, rfl, fun _ _ => rfl, (fun k _ _ h => by cases h), (Kept.refl _ _).drew, hz0, (fun h => by cases h)⟩
  · rintro f a W ⟨tm, rfl, hJ⟩ hcl i o ho hi hfi hpre
    have k0 := (hJ.old 0 (by decide)).trans h0
    have k12 := (hJ.old 12 (by decide)).trans h12
    have k13 := (hJ.old 13 (by decide)).trans h13
    have k14 := (hJ.old 14 (by decide)).trans h14
    have cls := fun h => hcl 12 _ rfl h
    have clc := fun h => hcl 7 _ rfl h
    simp [Region.binds] at cls clc
    clear hcl
    rcases i with _ | _ | _ | _ | _ | _ | _ | _ | _ | _ | _ | _ | _ | i
    rotate_right
    · exfalso; omega
    all_goals try simp only [Nat.zero_add, Nat.reduceAdd] at hfi ho ⊢
    all_goals simp at ho
    all_goals subst ho
    all_goals simp [Region.binds] at hpre
    all_goals clear hi
    · refine wpOp_of rfl rfl ?_
      go_simp
      exact hJ.step (i := 0) (by decide) rfl (rcT hT) rcPH rcI (fun _ => rfl) (hJ.ph.pure (by decide) (by decide) (by decide) (by decide))
    · have e195 : tm[195]? = some (.pointer (some ⟨mb, 0, none⟩)) := hJ.val 0 (by decide) rfl (by simp [hpre])
      refine wpOp_of rfl rfl ?_
      go_simp
      exact hJ.step (i := 1) (by decide) rfl (rcT hT) rcPH rcI (fun _ => rfl) (hJ.ph.pure (by decide) (by decide) (by decide) (by decide))
    · have e196 : tm[196]? = some (.pointer (some ⟨mb, 0, none⟩)) := hJ.val 1 (by decide) rfl (by simp [hpre])
      refine wpOp_of rfl rfl ?_
      go_simp
      exact hJ.step (i := 2) (by decide) rfl (rcT hT) rcPH rcI (fun _ => rfl) (hJ.ph.pure (by decide) (by decide) (by decide) (by decide))
    · have e197 : tm[197]? = some (.pointer (some ⟨mb, 0, none⟩)) := hJ.val 2 (by decide) rfl (by simp [hpre])
      obtain ⟨x0, x1, x2, x3, x4⟩ := hc _ hJ.ph.1
      refine wpOp_of rfl rfl ?_
      go_simp
      exact hJ.step (i := 3) (by decide) rfl (rcT hT) rcPH rcI (fun _ => rfl) (hJ.ph.pure (by decide) (by decide) (by decide) (by decide))
    · obtain ⟨x0, x1, x2, x3, x4⟩ := hc _ hJ.ph.1
      refine wpOp_of rfl rfl ?_
      go_simp
      exact hJ.step (i := 4) (by decide) rfl (rcT hT) rcPH rcI (fun _ => rfl) (hJ.ph.pure (by decide) (by decide) (by decide) (by decide))
    · refine wpOp_of rfl rfl ?_
      go_simp
      exact hJ.step (i := 5) (by decide) rfl (rcT hT) rcPH rcI (fun _ => rfl) (hJ.ph.pure (by decide) (by decide) (by decide) (by decide))
    · obtain ⟨x0, x1, x2, x3, x4⟩ := hc _ hJ.ph.1
      refine wpOp_of rfl rfl ?_
      go_simp
      exact hJ.step (i := 6) (by decide) rfl (rcT hT) rcPH rcI (fun _ => rfl) (hJ.ph.pure (by decide) (by decide) (by decide) (by decide))
    · have e198 : tm[198]? = some (.pointer (some ⟨b, 0, none⟩)) := hJ.val 3 (by decide) rfl (by simp [hpre])
      have e199 : tm[199]? = some (.agg #[.int .i64 ri, .int .u32 rg]) := hJ.val 4 (by decide) rfl (by simp [hpre])
      have e200 : tm[200]? = some (.int .i64 j) := hJ.val 5 (by decide) rfl (by simp [hpre])
      have e201 : tm[201]? = some (.agg #[.int .i64 vi, .int .u32 vg]) := hJ.val 6 (by decide) rfl (by simp [hpre])
      have hz := hJ.ph.2.1
      rw [hfi, if_neg (by decide)] at hz
      refine wpOp_of rfl rfl ?_
      go_simp
      go_at_call 20
      refine (hcall _ hz).mono ?_
      rintro e w' ⟨rfl, hz2, hk⟩
      go_simp
      exact hJ.step (i := 7) (by decide) rfl (rcT hT) rcPH rcI (fun _ => rfl) (hJ.ph.call (by decide) (by decide) (by decide) hS hz2 hk)
    · have e202 : tm[202]? = some (.tuple #[.agg #[.int .i64 q.1, .int .u32 q.2], .int .i64 E]) := hJ.val 7 (by decide) rfl (by simp [hpre])
      refine wpOp_of rfl rfl ?_
      go_simp
      exact hJ.step (i := 8) (by decide) rfl (rcT hT) rcPH rcI (fun _ => rfl) (hJ.ph.pure (by decide) (by decide) (by decide) (by decide))
    · have e194 : tm[194]? = some (.tuple #[.agg #[.int .i64 q.1, .int .u32 q.2], .int .i64 E]) := hJ.val 8 (by decide) rfl (by simp [hpre])
      refine wpOp_of rfl rfl ?_
      go_simp
      exact hJ.step (i := 9) (by decide) rfl (rcT hT) rcPH rcI (fun _ => rfl) (hJ.ph.pure (by decide) (by decide) (by decide) (by decide))
    · have e194 : tm[194]? = some (.tuple #[.agg #[.int .i64 q.1, .int .u32 q.2], .int .i64 E]) := hJ.val 8 (by decide) rfl (by simp [hpre])
      refine wpOp_of rfl rfl ?_
      go_simp
      exact hJ.step (i := 10) (by decide) rfl (rcT hT) rcPH rcI (fun _ => rfl) (hJ.ph.pure (by decide) (by decide) (by decide) (by decide))
    · refine wpOp_of rfl rfl ?_
      go_simp
      refine hJ.step (i := 11) (by decide) rfl (rcT hT) rcPH rcI (fun h => by cases h) (hJ.ph.alloc (by decide) (by decide) ?_ (by rw [hJ.sz, hT]; decide) za1 za2)
      cases c : f 12 with
      | false => rfl
      | true => exact absurd (by simp [cls c] : f 11 = true) (by rw [hfi]; decide)
    · have hfa : f 11 = true := by simp [hpre]
      have e203 : tm[203]? = some (.agg #[.int .i64 q.1, .int .u32 q.2]) := hJ.val 9 (by decide) rfl (by simp [hpre])
      obtain ⟨B, b1, b2, b3⟩ := hJ.ph.2.2 hfa
      rw [hfi] at b2
      have b2 : Bk W B 34 (rfc (0, 0)) := b2
      obtain ⟨x0, x1⟩ := b2.rf
      obtain ⟨z0, z1⟩ := b2.rfz
      have hfc : f 7 = true := by simp [hpre]
      refine wpOp_of rfl rfl ?_
      go_simp
      exact hJ.nodst (i := 12) rfl (hJ.ph.store (by decide) (by decide) hfc b1 b2 b3 zs)
  · rintro f a W ⟨tm, rfl, hJ⟩ hal
    have e204 : tm[204]? = some (.int .i64 E) := hJ.val 10 (by decide) rfl (hal 10 (by decide))
    refine wpOp_of rfl rfl ?_
    go_simp
    obtain ⟨hk, hz, hb⟩ := hJ.ph
    rw [hal 7 (by decide), if_pos rfl] at hz
    obtain ⟨B, b1, b2, b3⟩ := hb (hal 11 (by decide))
    rw [hal 12 (by decide), if_pos rfl] at b2
    have := hQ (fun k => (tm[rcD k]?).getD undef) B W hk hz b2 b3 (by show (tm[15]?).getD undef = _; rw [b1]; rfl)
    rw [← hJ.frame (rcT hT) rcI] at this
    exact this
end Go.Proofs.Ytfnhkapbfgofkaa
