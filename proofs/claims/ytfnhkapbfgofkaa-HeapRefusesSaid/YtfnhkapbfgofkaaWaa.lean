/- The drawn regions of the model's agrees that call, whatever the frame. -/
import Derived.Test.YtfnhkapbfgofkaaWu
import Derived.Test.YtfnhkapbfgofkaaNh
namespace Go.Proofs.Ytfnhkapbfgofkaa
open Go.RowKit

theorem set10_obc (o q : Ob) : set10 (obc q) 0 o = obc o := by
  have hs : (set10 (obc q) 0 o).size = 10 := by rw [set10_size]; rfl
  refine Array.ext_getElem? fun k => ?_
  by_cases hk : k < 10
  · have := set10_in (cs := obc q) (q := 0) o (by show 0 + 10 ≤ 10; omega) hk
    rw [Nat.zero_add] at this
    exact this
  · rw [Array.getElem?_eq_none (by omega), Array.getElem?_eq_none (by show 10 ≤ k; omega)]
/-- An object is stored into its box. -/
theorem PHc.store10 {w1 W : World} {S : Nat → Prop} {Z1 Z2 : World → Prop} {ci ai si BX : Nat} {bt : TypeId} {cs0 : Array Value} {f : Nat → Bool} {tm : Array Value} {q q0 : Ob} (h : PHc w1 S Z1 Z2 ci ai si BX bt cs0 (obc q) f tm W) {B : Nat} (h1 : ci ≠ si) (h2 : ai ≠ si) (hc : f ci = true) (hB : tm[BX]? = some (.pointer (some ⟨B, 0, none⟩))) (hb : Bk W B bt (obc q0)) (hl : w1.heap.size ≤ B) (zs : ∀ W c o, w1.heap.size ≤ c → (∃ cs, Bk W c bt cs) → Z2 W → Z2 (put10 W c 0 o)) : PHc w1 S Z1 Z2 ci ai si BX bt cs0 (obc q) (more f si) tm (put10 W B 0 q) := by
  unfold PHc
  rw [more_other h1, more_other h2, more_same, hc]
  have hz := h.2.1
  rw [hc, if_pos rfl] at hz
  refine ⟨kept_put10 h.1 (.inl hl) 0 q, by rw [if_pos rfl]; exact zs W B q hl ⟨_, hb⟩ hz, fun _ => ⟨B, hB, ?_, hl⟩⟩
  rw [if_pos rfl]
  have := hb.put10 0 q
  rw [set10_obc] at this
  exact this
def ag5D : Nat → Nat := fun k => ([33, 34, 35, 36, 37, 38, 39, 40, 41, 42, 43, 44, 32, 45, 46, 5, 0] : List Nat).getD k 0
def ag5H : Nat → Bool := fun k => ([true, true, true, true, true, true, true, true, true, true, true, true, true, true, true, true, false] : List Bool).getD k false
def ag5P : Nat → Bool := fun k => ([true, true, true, true, true, true, true, true, true, true, true, true, true, true, true, false, false] : List Bool).getD k false
def ag5V (mb b g n cR y ri rg : Nat) (q : Ob) (E : Int) : Nat → Value := fun k => ([.pointer (some ⟨mb, 0, none⟩), .pointer (some ⟨mb, 0, none⟩), .pointer (some ⟨mb, 0, none⟩), .pointer (some ⟨b, 0, none⟩), .pointer (some ⟨mb, 0, none⟩), .pointer (some ⟨mb, 0, none⟩), .pointer (some ⟨mb, 2, none⟩), .slice (some ⟨g, 0, none⟩) n cR, .int .i64 y, .pointer (some ⟨g, y * 2, none⟩), .agg #[.int .i64 ri, .int .u32 rg], .tuple #[.agg #[.int .i64 q.n, .int .i64 q.a.1, .int .u32 q.a.2, .int .i64 q.b.1, .int .u32 q.b.2, .int .i64 q.c.1, .int .u32 q.c.2, .int .i64 q.d.1, .int .u32 q.d.2, .bool q.h], .int .i64 E], .tuple #[.agg #[.int .i64 q.n, .int .i64 q.a.1, .int .u32 q.a.2, .int .i64 q.b.1, .int .u32 q.b.2, .int .i64 q.c.1, .int .u32 q.c.2, .int .i64 q.d.1, .int .u32 q.d.2, .bool q.h], .int .i64 E], .agg #[.int .i64 q.n, .int .i64 q.a.1, .int .u32 q.a.2, .int .i64 q.b.1, .int .u32 q.b.2, .int .i64 q.c.1, .int .u32 q.c.2, .int .i64 q.d.1, .int .u32 q.d.2, .bool q.h], .int .i64 E, undef, undef] : List Value).getD k undef
theorem ag5T {T : Array Value} (hT : T.size = 194) : ∀ k, k < 17 → ag5H k = true → ag5D k < T.size := by rw [hT]; decide
theorem ag5I : ∀ j k, j < 17 → k < 17 → ag5H j = true → ag5H k = true → ag5D j = ag5D k → j = k := fun j k hj hk => (by decide : ∀ j, j < 17 → ∀ k, k < 17 → ag5H j = true → ag5H k = true → ag5D j = ag5D k → j = k) j hj k hk
theorem ag5PH : ∀ k, k < 17 → ag5P k = true → ag5H k = true := by decide
set_option maxHeartbeats 4000000 in
set_option maxRecDepth 100000 in
theorem ag5_region {id : Nat} {Q : Exit → Act → World → Prop} {T : Array Value} {w1 : World} (mb b g n cR y ri rg : Nat) (hy : y < n) {S : Nat → Prop} {Z1 Z2 : World → Prop} (q : Ob) (E : Int)
    (hT : T.size = 194) (h0 : T[0]? = some (.pointer (some ⟨mb, 0, none⟩))) (h3 : T[3]? = some (.int .i64 y))
    (hz0 : Z1 w1.drew) (za1 : ∀ W o, Z1 W → Z1 (W.alloc o)) (za2 : ∀ W o, Z2 W → Z2 (W.alloc o)) (zs : ∀ W c o, w1.heap.size ≤ c → (∃ cs, Bk W c 53 cs) → Z2 W → Z2 (put10 W c 0 o)) (hS : ∀ g, S g → g < w1.heap.size)
    (hc : ∀ W, Kept S w1 W → W.cell? ⟨mb, 0, none⟩ = some (.pointer (some ⟨b, 0, none⟩)) ∧ W.cell? ⟨mb, 2, none⟩ = some (.slice (some ⟨g, 0, none⟩) n cR) ∧ W.cell? ⟨g, y * 2, none⟩ = some (.int .i64 ri) ∧ W.cell? ⟨g, y * 2 + 1, none⟩ = some (.int .u32 rg))
    (hcall : ∀ W, Z1 W → Calls Try.prog 26 #[.pointer (some ⟨b, 0, none⟩), .agg #[.int .i64 ri, .int .u32 rg]] W fun e w' => e = .returned (.tuple #[.agg #[.int .i64 q.n, .int .i64 q.a.1, .int .u32 q.a.2, .int .i64 q.b.1, .int .u32 q.b.2, .int .i64 q.c.1, .int .u32 q.c.2, .int .i64 q.d.1, .int .u32 q.d.2, .bool q.h], .int .i64 E]) ∧ Z2 w' ∧ Kept S W w')
    (hQ : ∀ (us : Nat → Value) (B : Nat) (W : World), Kept S w1 W → Z2 W → Bk W B 53 (obc q) → w1.heap.size ≤ B → us 15 = .pointer (some ⟨B, 0, none⟩) → Q .normal ⟨(frm 17 ag5D ag5H us T).setIfInBounds 6 (.int .i64 E), []⟩ W) :
    (Code.region id #[{ dst := some 33, op := Op.move (Operand.tmp 0), type := 61, pos := "outright.go:69", after := #[], guard := none }, { dst := some 34, op := Op.nilCheck (Operand.tmp 33), type := 0, pos := "outright.go:69", after := #[{ on := 0, ground := Ground.data }], guard := none }, { dst := some 35, op := Op.fieldAddr 68 (Operand.tmp 34) 0, type := 0, pos := "outright.go:69", after := #[{ on := 1, ground := Ground.data }], guard := none }, { dst := some 36, op := Op.load 25 (Operand.tmp 35), type := 25, pos := "outright.go:69", after := #[{ on := 2, ground := Ground.data }], guard := none }, { dst := some 37, op := Op.move (Operand.tmp 0), type := 61, pos := "outright.go:69", after := #[], guard := none }, { dst := some 38, op := Op.nilCheck (Operand.tmp 37), type := 0, pos := "outright.go:69", after := #[{ on := 4, ground := Ground.data }], guard := none }, { dst := some 39, op := Op.fieldAddr 68 (Operand.tmp 38) 2, type := 0, pos := "outright.go:69", after := #[{ on := 5, ground := Ground.data }], guard := none }, { dst := some 40, op := Op.load 32 (Operand.tmp 39), type := 32, pos := "outright.go:69", after := #[{ on := 6, ground := Ground.data }], guard := none }, { dst := some 41, op := Op.move (Operand.tmp 3), type := 3, pos := "outright.go:69", after := #[], guard := none }, { dst := some 42, op := Op.indexAddr 32 (Operand.tmp 40) (Operand.tmp 41), type := 0, pos := "outright.go:69", after := #[{ on := 7, ground := Ground.data }, { on := 8, ground := Ground.data }], guard := none }, { dst := some 43, op := Op.load 34 (Operand.tmp 42), type := 34, pos := "outright.go:69", after := #[{ on := 9, ground := Ground.data }], guard := none }, { dst := some 44, op := Op.call { callee := Callee.value (Operand.func 26), args := #[Operand.tmp 36, Operand.tmp 43], argTypes := #[25, 34] }, type := 54, pos := "outright.go:69", after := #[{ on := 3, ground := Ground.data }, { on := 10, ground := Ground.data }], guard := none }, { dst := some 32, op := Op.move (Operand.tmp 44), type := 54, pos := "outright.go:69", after := #[{ on := 11, ground := Ground.data }], guard := none }, { dst := some 45, op := Op.extract (Operand.tmp 32) 0, type := 53, pos := "outright.go:69", after := #[{ on := 12, ground := Ground.data }], guard := none }, { dst := some 46, op := Op.extract (Operand.tmp 32) 1, type := 26, pos := "outright.go:69", after := #[{ on := 12, ground := Ground.data }, { on := 16, ground := Ground.gcOnly Departure.lateStores }], guard := none }, { dst := some 5, op := Op.alloc 53, type := 0, pos := "outright.go:69", after := #[], guard := none }, { dst := none, op := Op.store 53 (Operand.tmp 5) (Operand.tmp 45), type := 0, pos := "outright.go:69", after := #[{ on := 15, ground := Ground.data }, { on := 13, ground := Ground.data }, { on := 11, ground := Ground.chain }, { on := 0, ground := Ground.phase }, { on := 1, ground := Ground.phase }, { on := 2, ground := Ground.phase }, { on := 3, ground := Ground.phase }, { on := 4, ground := Ground.phase }, { on := 5, ground := Ground.phase }, { on := 6, ground := Ground.phase }, { on := 7, ground := Ground.phase }, { on := 8, ground := Ground.phase }, { on := 9, ground := Ground.phase }, { on := 10, ground := Ground.phase }, { on := 11, ground := Ground.phase }, { on := 12, ground := Ground.phase }, { on := 13, ground := Ground.phase }, { on := 14, ground := Ground.textOnly Departure.lateStores }, { on := 15, ground := Ground.phase }], guard := none }, { dst := some 6, op := Op.assign (Operand.tmp 46), type := 26, pos := "outright.go:69", after := #[{ on := 14, ground := Ground.data }, { on := 16, ground := Ground.chain }, { on := 0, ground := Ground.phase }, { on := 1, ground := Ground.phase }, { on := 2, ground := Ground.phase }, { on := 3, ground := Ground.phase }, { on := 4, ground := Ground.phase }, { on := 5, ground := Ground.phase }, { on := 6, ground := Ground.phase }, { on := 7, ground := Ground.phase }, { on := 8, ground := Ground.phase }, { on := 9, ground := Ground.phase }, { on := 10, ground := Ground.phase }, { on := 11, ground := Ground.phase }, { on := 12, ground := Ground.phase }, { on := 13, ground := Ground.phase }, { on := 14, ground := Ground.phase }, { on := 15, ground := Ground.phase }, { on := 16, ground := Ground.phase }], guard := none }] true).wp Try.prog Q ⟨T, []⟩ w1 := by
  refine region_last 17 (fun f a W => ∃ tm, a = ⟨tm, []⟩ ∧ JR 17 ag5D ag5H ag5P (ag5V mb b g n cR y ri rg q E) T (PHc w1 S Z1 Z2 11 15 16 5 53 (obc ob0) (obc q)) f tm W) (by kernel_rfl) rfl ?_ ?_ ?_ ?_ ?_
  · intro i o ho
    rcases i with _ | _ | _ | _ | _ | _ | _ | _ | _ | _ | _ | _ | _ | _ | _ | _ | _ | _ | i
    all_goals simp at ho
    all_goals subst ho
    all_goals simp [Region.binds]
  · intro f hcl hp i hi
    have h1 := hp _ rfl
    simp [Region.binds] at h1
    rcases i with _ | _ | _ | _ | _ | _ | _ | _ | _ | _ | _ | _ | _ | _ | _ | _ | _ | i
    all_goals try simp only [Nat.zero_add, Nat.reduceAdd] at hi ⊢
    all_goals first | omega | simp [h1]
  · exact ⟨T, rfl, rfl, fun _ _ => rfl, (fun k _ _ h => by cases h), (Kept.refl _ _).drew, hz0, (fun h => by cases h)⟩
  · rintro f a W ⟨tm, rfl, hJ⟩ hcl i o ho hi hfi hpre
    have k0 := (hJ.old 0 (by decide)).trans h0
    have k3 := (hJ.old 3 (by decide)).trans h3
    have cls := fun h => hcl 16 _ rfl h
    have clc := fun h => hcl 11 _ rfl h
    simp [Region.binds] at cls clc
    clear hcl
    rcases i with _ | _ | _ | _ | _ | _ | _ | _ | _ | _ | _ | _ | _ | _ | _ | _ | _ | i
    rotate_right
    · exfalso; omega
    all_goals try simp only [Nat.zero_add, Nat.reduceAdd] at hfi ho ⊢
    all_goals simp at ho
    all_goals subst ho
    all_goals simp [Region.binds] at hpre
    all_goals clear hi
    · refine wpOp_of rfl rfl ?_
      go_simp
      exact hJ.step (i := 0) (by decide) rfl (ag5T hT) ag5PH ag5I (fun _ => rfl) (hJ.ph.pure (by decide) (by decide) (by decide) (by decide))
    · have e33 : tm[33]? = some (.pointer (some ⟨mb, 0, none⟩)) := hJ.val 0 (by decide) rfl (by simp [hpre])
      refine wpOp_of rfl rfl ?_
      go_simp
      exact hJ.step (i := 1) (by decide) rfl (ag5T hT) ag5PH ag5I (fun _ => rfl) (hJ.ph.pure (by decide) (by decide) (by decide) (by decide))
    · have e34 : tm[34]? = some (.pointer (some ⟨mb, 0, none⟩)) := hJ.val 1 (by decide) rfl (by simp [hpre])
      refine wpOp_of rfl rfl ?_
      go_simp
      exact hJ.step (i := 2) (by decide) rfl (ag5T hT) ag5PH ag5I (fun _ => rfl) (hJ.ph.pure (by decide) (by decide) (by decide) (by decide))
    · have e35 : tm[35]? = some (.pointer (some ⟨mb, 0, none⟩)) := hJ.val 2 (by decide) rfl (by simp [hpre])
      obtain ⟨x0, x2, y0, y1⟩ := hc _ hJ.ph.1
      refine wpOp_of rfl rfl ?_
      go_simp
      exact hJ.step (i := 3) (by decide) rfl (ag5T hT) ag5PH ag5I (fun _ => rfl) (hJ.ph.pure (by decide) (by decide) (by decide) (by decide))
    · refine wpOp_of rfl rfl ?_
      go_simp
      exact hJ.step (i := 4) (by decide) rfl (ag5T hT) ag5PH ag5I (fun _ => rfl) (hJ.ph.pure (by decide) (by decide) (by decide) (by decide))
    · have e37 : tm[37]? = some (.pointer (some ⟨mb, 0, none⟩)) := hJ.val 4 (by decide) rfl (by simp [hpre])
      refine wpOp_of rfl rfl ?_
      go_simp
      exact hJ.step (i := 5) (by decide) rfl (ag5T hT) ag5PH ag5I (fun _ => rfl) (hJ.ph.pure (by decide) (by decide) (by decide) (by decide))
    · have e38 : tm[38]? = some (.pointer (some ⟨mb, 0, none⟩)) := hJ.val 5 (by decide) rfl (by simp [hpre])
      refine wpOp_of rfl rfl ?_
      go_simp
      exact hJ.step (i := 6) (by decide) rfl (ag5T hT) ag5PH ag5I (fun _ => rfl) (hJ.ph.pure (by decide) (by decide) (by decide) (by decide))
    · have e39 : tm[39]? = some (.pointer (some ⟨mb, 2, none⟩)) := hJ.val 6 (by decide) rfl (by simp [hpre])
      obtain ⟨x0, x2, y0, y1⟩ := hc _ hJ.ph.1
      refine wpOp_of rfl rfl ?_
      go_simp
      exact hJ.step (i := 7) (by decide) rfl (ag5T hT) ag5PH ag5I (fun _ => rfl) (hJ.ph.pure (by decide) (by decide) (by decide) (by decide))
    · refine wpOp_of rfl rfl ?_
      go_simp
      exact hJ.step (i := 8) (by decide) rfl (ag5T hT) ag5PH ag5I (fun _ => rfl) (hJ.ph.pure (by decide) (by decide) (by decide) (by decide))
    · have e40 : tm[40]? = some (.slice (some ⟨g, 0, none⟩) n cR) := hJ.val 7 (by decide) rfl (by simp [hpre])
      have e41 : tm[41]? = some (.int .i64 y) := hJ.val 8 (by decide) rfl (by simp [hpre])
      refine wpOp_of rfl rfl ?_
      go_simp
      exact hJ.step (i := 9) (by decide) rfl (ag5T hT) ag5PH ag5I (fun _ => rfl) (hJ.ph.pure (by decide) (by decide) (by decide) (by decide))
    · have e42 : tm[42]? = some (.pointer (some ⟨g, y * 2, none⟩)) := hJ.val 9 (by decide) rfl (by simp [hpre])
      obtain ⟨x0, x2, y0, y1⟩ := hc _ hJ.ph.1
      refine wpOp_of rfl rfl ?_
      go_simp
      exact hJ.step (i := 10) (by decide) rfl (ag5T hT) ag5PH ag5I (fun _ => rfl) (hJ.ph.pure (by decide) (by decide) (by decide) (by decide))
    · have e36 : tm[36]? = some (.pointer (some ⟨b, 0, none⟩)) := hJ.val 3 (by decide) rfl (by simp [hpre])
      have e43 : tm[43]? = some (.agg #[.int .i64 ri, .int .u32 rg]) := hJ.val 10 (by decide) rfl (by simp [hpre])
      have hz := hJ.ph.2.1
      rw [hfi, if_neg (by decide)] at hz
      refine wpOp_of rfl rfl ?_
      go_simp
      go_at_call 26
      refine (hcall _ hz).mono ?_
      rintro e w' ⟨rfl, hz2, hk⟩
      go_simp
      exact hJ.step (i := 11) (by decide) rfl (ag5T hT) ag5PH ag5I (fun _ => rfl) (hJ.ph.call (by decide) (by decide) (by decide) hS hz2 hk)
    · have e44 : tm[44]? = some (.tuple #[.agg #[.int .i64 q.n, .int .i64 q.a.1, .int .u32 q.a.2, .int .i64 q.b.1, .int .u32 q.b.2, .int .i64 q.c.1, .int .u32 q.c.2, .int .i64 q.d.1, .int .u32 q.d.2, .bool q.h], .int .i64 E]) := hJ.val 11 (by decide) rfl (by simp [hpre])
      refine wpOp_of rfl rfl ?_
      go_simp
      exact hJ.step (i := 12) (by decide) rfl (ag5T hT) ag5PH ag5I (fun _ => rfl) (hJ.ph.pure (by decide) (by decide) (by decide) (by decide))
    · have e32 : tm[32]? = some (.tuple #[.agg #[.int .i64 q.n, .int .i64 q.a.1, .int .u32 q.a.2, .int .i64 q.b.1, .int .u32 q.b.2, .int .i64 q.c.1, .int .u32 q.c.2, .int .i64 q.d.1, .int .u32 q.d.2, .bool q.h], .int .i64 E]) := hJ.val 12 (by decide) rfl (by simp [hpre])
      refine wpOp_of rfl rfl ?_
      go_simp
      exact hJ.step (i := 13) (by decide) rfl (ag5T hT) ag5PH ag5I (fun _ => rfl) (hJ.ph.pure (by decide) (by decide) (by decide) (by decide))
    · have e32 : tm[32]? = some (.tuple #[.agg #[.int .i64 q.n, .int .i64 q.a.1, .int .u32 q.a.2, .int .i64 q.b.1, .int .u32 q.b.2, .int .i64 q.c.1, .int .u32 q.c.2, .int .i64 q.d.1, .int .u32 q.d.2, .bool q.h], .int .i64 E]) := hJ.val 12 (by decide) rfl (by simp [hpre])
      refine wpOp_of rfl rfl ?_
      go_simp
      exact hJ.step (i := 14) (by decide) rfl (ag5T hT) ag5PH ag5I (fun _ => rfl) (hJ.ph.pure (by decide) (by decide) (by decide) (by decide))
    · refine wpOp_of rfl rfl ?_
      go_simp
      refine hJ.step (i := 15) (by decide) rfl (ag5T hT) ag5PH ag5I (fun h => by cases h) (hJ.ph.alloc (by decide) (by decide) ?_ (by rw [hJ.sz, hT]; decide) za1 za2)
      cases c : f 16 with
      | false => rfl
      | true => exact absurd (by simp [cls c] : f 15 = true) (by rw [hfi]; decide)
    · have hfa : f 15 = true := by simp [hpre]
      have e45 : tm[45]? = some (.agg #[.int .i64 q.n, .int .i64 q.a.1, .int .u32 q.a.2, .int .i64 q.b.1, .int .u32 q.b.2, .int .i64 q.c.1, .int .u32 q.c.2, .int .i64 q.d.1, .int .u32 q.d.2, .bool q.h]) := hJ.val 13 (by decide) rfl (by simp [hpre])
      obtain ⟨B, b1, b2, b3⟩ := hJ.ph.2.2 hfa
      rw [hfi] at b2
      have b2 : Bk W B 53 (obc ob0) := b2
      obtain ⟨x0, x1, x2, x3, x4, x5, x6, x7, x8, x9⟩ := b2.ob
      obtain ⟨z0, z1, z2, z3, z4, z5, z6, z7, z8, z9⟩ := b2.ofz
      have hfc : f 11 = true := by simp [hpre]
      refine wpOp_of rfl rfl ?_
      go_simp
      exact hJ.nodst (i := 16) rfl (hJ.ph.store10 (by decide) (by decide) hfc b1 b2 b3 zs)
  · rintro f a W ⟨tm, rfl, hJ⟩ hal
    have e46 : tm[46]? = some (.int .i64 E) := hJ.val 14 (by decide) rfl (hal 14 (by decide))
    refine wpOp_of rfl rfl ?_
    go_simp
    obtain ⟨hk, hz, hb⟩ := hJ.ph
    rw [hal 11 (by decide), if_pos rfl] at hz
    obtain ⟨B, b1, b2, b3⟩ := hb (hal 15 (by decide))
    rw [hal 16 (by decide), if_pos rfl] at b2
    have := hQ (fun k => (tm[ag5D k]?).getD undef) B W hk hz b2 b3 (by show (tm[5]?).getD undef = _; rw [b1]; rfl)
    rw [← hJ.frame (ag5T hT) ag5I] at this
    exact this
def ag11D : Nat → Nat := fun k => ([76, 77, 78, 79, 80, 81, 82, 83, 84, 85, 86, 87, 88, 75, 89, 90, 8, 0] : List Nat).getD k 0
def ag11H : Nat → Bool := fun k => ([true, true, true, true, true, true, true, true, true, true, true, true, true, true, true, true, true, false] : List Bool).getD k false
def ag11P : Nat → Bool := fun k => ([true, true, true, true, true, true, true, true, true, true, true, true, true, true, true, true, false, false] : List Bool).getD k false
def ag11V (mb b g n cR y ri rg j : Nat) (q : Rf) (E : Int) : Nat → Value := fun k => ([.pointer (some ⟨mb, 0, none⟩), .pointer (some ⟨mb, 0, none⟩), .pointer (some ⟨mb, 0, none⟩), .pointer (some ⟨b, 0, none⟩), .pointer (some ⟨mb, 0, none⟩), .pointer (some ⟨mb, 0, none⟩), .pointer (some ⟨mb, 2, none⟩), .slice (some ⟨g, 0, none⟩) n cR, .int .i64 y, .pointer (some ⟨g, y * 2, none⟩), .agg #[.int .i64 ri, .int .u32 rg], .int .i64 j, .tuple #[.agg #[.int .i64 q.1, .int .u32 q.2], .int .i64 E], .tuple #[.agg #[.int .i64 q.1, .int .u32 q.2], .int .i64 E], .agg #[.int .i64 q.1, .int .u32 q.2], .int .i64 E, undef, undef] : List Value).getD k undef
theorem ag11T {T : Array Value} (hT : T.size = 194) : ∀ k, k < 18 → ag11H k = true → ag11D k < T.size := by rw [hT]; decide
theorem ag11I : ∀ j k, j < 18 → k < 18 → ag11H j = true → ag11H k = true → ag11D j = ag11D k → j = k := fun j k hj hk => (by decide : ∀ j, j < 18 → ∀ k, k < 18 → ag11H j = true → ag11H k = true → ag11D j = ag11D k → j = k) j hj k hk
theorem ag11PH : ∀ k, k < 18 → ag11P k = true → ag11H k = true := by decide
set_option maxHeartbeats 4000000 in
set_option maxRecDepth 100000 in
theorem ag11_region {id : Nat} {Q : Exit → Act → World → Prop} {T : Array Value} {w1 : World} (mb b g n cR y ri rg j : Nat) (hy : y < n) {S : Nat → Prop} {Z1 Z2 : World → Prop} (q : Rf) (E : Int)
    (hT : T.size = 194) (h0 : T[0]? = some (.pointer (some ⟨mb, 0, none⟩))) (h3 : T[3]? = some (.int .i64 y)) (h7 : T[7]? = some (.int .i64 j))
    (hz0 : Z1 w1.drew) (za1 : ∀ W o, Z1 W → Z1 (W.alloc o)) (za2 : ∀ W o, Z2 W → Z2 (W.alloc o)) (zs : ∀ W c u v, w1.heap.size ≤ c → (∃ cs, Bk W c 34 cs) → Z2 W → Z2 ((W.setCell ⟨c, 0, none⟩ u).setCell ⟨c, 1, none⟩ v)) (hS : ∀ g, S g → g < w1.heap.size)
    (hc : ∀ W, Kept S w1 W → W.cell? ⟨mb, 0, none⟩ = some (.pointer (some ⟨b, 0, none⟩)) ∧ W.cell? ⟨mb, 2, none⟩ = some (.slice (some ⟨g, 0, none⟩) n cR) ∧ W.cell? ⟨g, y * 2, none⟩ = some (.int .i64 ri) ∧ W.cell? ⟨g, y * 2 + 1, none⟩ = some (.int .u32 rg))
    (hcall : ∀ W, Z1 W → Calls Try.prog 18 #[.pointer (some ⟨b, 0, none⟩), .agg #[.int .i64 ri, .int .u32 rg], .int .i64 j] W fun e w' => e = .returned (.tuple #[.agg #[.int .i64 q.1, .int .u32 q.2], .int .i64 E]) ∧ Z2 w' ∧ Kept S W w')
    (hQ : ∀ (us : Nat → Value) (B : Nat) (W : World), Kept S w1 W → Z2 W → Bk W B 34 (rfc q) → w1.heap.size ≤ B → us 16 = .pointer (some ⟨B, 0, none⟩) → Q .normal ⟨(frm 18 ag11D ag11H us T).setIfInBounds 9 (.int .i64 E), []⟩ W) :
    (Code.region id #[{ dst := some 76, op := Op.move (Operand.tmp 0), type := 61, pos := "outright.go:74", after := #[], guard := none }, { dst := some 77, op := Op.nilCheck (Operand.tmp 76), type := 0, pos := "outright.go:74", after := #[{ on := 0, ground := Ground.data }], guard := none }, { dst := some 78, op := Op.fieldAddr 68 (Operand.tmp 77) 0, type := 0, pos := "outright.go:74", after := #[{ on := 1, ground := Ground.data }], guard := none }, { dst := some 79, op := Op.load 25 (Operand.tmp 78), type := 25, pos := "outright.go:74", after := #[{ on := 2, ground := Ground.data }], guard := none }, { dst := some 80, op := Op.move (Operand.tmp 0), type := 61, pos := "outright.go:74", after := #[], guard := none }, { dst := some 81, op := Op.nilCheck (Operand.tmp 80), type := 0, pos := "outright.go:74", after := #[{ on := 4, ground := Ground.data }], guard := none }, { dst := some 82, op := Op.fieldAddr 68 (Operand.tmp 81) 2, type := 0, pos := "outright.go:74", after := #[{ on := 5, ground := Ground.data }], guard := none }, { dst := some 83, op := Op.load 32 (Operand.tmp 82), type := 32, pos := "outright.go:74", after := #[{ on := 6, ground := Ground.data }], guard := none }, { dst := some 84, op := Op.move (Operand.tmp 3), type := 3, pos := "outright.go:74", after := #[], guard := none }, { dst := some 85, op := Op.indexAddr 32 (Operand.tmp 83) (Operand.tmp 84), type := 0, pos := "outright.go:74", after := #[{ on := 7, ground := Ground.data }, { on := 8, ground := Ground.data }], guard := none }, { dst := some 86, op := Op.load 34 (Operand.tmp 85), type := 34, pos := "outright.go:74", after := #[{ on := 9, ground := Ground.data }], guard := none }, { dst := some 87, op := Op.move (Operand.tmp 7), type := 3, pos := "outright.go:74", after := #[], guard := none }, { dst := some 88, op := Op.call { callee := Callee.value (Operand.func 18), args := #[Operand.tmp 79, Operand.tmp 86, Operand.tmp 87], argTypes := #[25, 34, 3] }, type := 37, pos := "outright.go:74", after := #[{ on := 3, ground := Ground.data }, { on := 10, ground := Ground.data }, { on := 11, ground := Ground.data }], guard := none }, { dst := some 75, op := Op.move (Operand.tmp 88), type := 37, pos := "outright.go:74", after := #[{ on := 12, ground := Ground.data }], guard := none }, { dst := some 89, op := Op.extract (Operand.tmp 75) 0, type := 34, pos := "outright.go:74", after := #[{ on := 13, ground := Ground.data }], guard := none }, { dst := some 90, op := Op.extract (Operand.tmp 75) 1, type := 26, pos := "outright.go:74", after := #[{ on := 13, ground := Ground.data }, { on := 17, ground := Ground.gcOnly Departure.lateStores }], guard := none }, { dst := some 8, op := Op.alloc 34, type := 0, pos := "outright.go:74", after := #[], guard := none }, { dst := none, op := Op.store 34 (Operand.tmp 8) (Operand.tmp 89), type := 0, pos := "outright.go:74", after := #[{ on := 16, ground := Ground.data }, { on := 14, ground := Ground.data }, { on := 12, ground := Ground.chain }, { on := 0, ground := Ground.phase }, { on := 1, ground := Ground.phase }, { on := 2, ground := Ground.phase }, { on := 3, ground := Ground.phase }, { on := 4, ground := Ground.phase }, { on := 5, ground := Ground.phase }, { on := 6, ground := Ground.phase }, { on := 7, ground := Ground.phase }, { on := 8, ground := Ground.phase }, { on := 9, ground := Ground.phase }, { on := 10, ground := Ground.phase }, { on := 11, ground := Ground.phase }, { on := 12, ground := Ground.phase }, { on := 13, ground := Ground.phase }, { on := 14, ground := Ground.phase }, { on := 15, ground := Ground.textOnly Departure.lateStores }, { on := 16, ground := Ground.phase }], guard := none }, { dst := some 9, op := Op.assign (Operand.tmp 90), type := 26, pos := "outright.go:74", after := #[{ on := 15, ground := Ground.data }, { on := 17, ground := Ground.chain }, { on := 0, ground := Ground.phase }, { on := 1, ground := Ground.phase }, { on := 2, ground := Ground.phase }, { on := 3, ground := Ground.phase }, { on := 4, ground := Ground.phase }, { on := 5, ground := Ground.phase }, { on := 6, ground := Ground.phase }, { on := 7, ground := Ground.phase }, { on := 8, ground := Ground.phase }, { on := 9, ground := Ground.phase }, { on := 10, ground := Ground.phase }, { on := 11, ground := Ground.phase }, { on := 12, ground := Ground.phase }, { on := 13, ground := Ground.phase }, { on := 14, ground := Ground.phase }, { on := 15, ground := Ground.phase }, { on := 16, ground := Ground.phase }, { on := 17, ground := Ground.phase }], guard := none }] true).wp Try.prog Q ⟨T, []⟩ w1 := by
  refine region_last 18 (fun f a W => ∃ tm, a = ⟨tm, []⟩ ∧ JR 18 ag11D ag11H ag11P (ag11V mb b g n cR y ri rg j q E) T (PHc w1 S Z1 Z2 12 16 17 8 34 (rfc (0, 0)) (rfc q)) f tm W) (by kernel_rfl) rfl ?_ ?_ ?_ ?_ ?_
  · intro i o ho
    rcases i with _ | _ | _ | _ | _ | _ | _ | _ | _ | _ | _ | _ | _ | _ | _ | _ | _ | _ | _ | i
    all_goals simp at ho
    all_goals subst ho
    all_goals simp [Region.binds]
  · intro f hcl hp i hi
    have h1 := hp _ rfl
    simp [Region.binds] at h1
    rcases i with _ | _ | _ | _ | _ | _ | _ | _ | _ | _ | _ | _ | _ | _ | _ | _ | _ | _ | i
    all_goals try simp only [Nat.zero_add, Nat.reduceAdd] at hi ⊢
    all_goals first | omega | simp [h1]
  · exact ⟨T, rfl, rfl, fun _ _ => rfl, (fun k _ _ h => by cases h), (Kept.refl _ _).drew, hz0, (fun h => by cases h)⟩
  · rintro f a W ⟨tm, rfl, hJ⟩ hcl i o ho hi hfi hpre
    have k0 := (hJ.old 0 (by decide)).trans h0
    have k3 := (hJ.old 3 (by decide)).trans h3
    have k7 := (hJ.old 7 (by decide)).trans h7
    have cls := fun h => hcl 17 _ rfl h
    have clc := fun h => hcl 12 _ rfl h
    simp [Region.binds] at cls clc
    clear hcl
    rcases i with _ | _ | _ | _ | _ | _ | _ | _ | _ | _ | _ | _ | _ | _ | _ | _ | _ | _ | i
    rotate_right
    · exfalso; omega
    all_goals try simp only [Nat.zero_add, Nat.reduceAdd] at hfi ho ⊢
    all_goals simp at ho
    all_goals subst ho
    all_goals simp [Region.binds] at hpre
    all_goals clear hi
    · refine wpOp_of rfl rfl ?_
      go_simp
      exact hJ.step (i := 0) (by decide) rfl (ag11T hT) ag11PH ag11I (fun _ => rfl) (hJ.ph.pure (by decide) (by decide) (by decide) (by decide))
    · have e76 : tm[76]? = some (.pointer (some ⟨mb, 0, none⟩)) := hJ.val 0 (by decide) rfl (by simp [hpre])
      refine wpOp_of rfl rfl ?_
      go_simp
      exact hJ.step (i := 1) (by decide) rfl (ag11T hT) ag11PH ag11I (fun _ => rfl) (hJ.ph.pure (by decide) (by decide) (by decide) (by decide))
    · have e77 : tm[77]? = some (.pointer (some ⟨mb, 0, none⟩)) := hJ.val 1 (by decide) rfl (by simp [hpre])
      refine wpOp_of rfl rfl ?_
      go_simp
      exact hJ.step (i := 2) (by decide) rfl (ag11T hT) ag11PH ag11I (fun _ => rfl) (hJ.ph.pure (by decide) (by decide) (by decide) (by decide))
    · have e78 : tm[78]? = some (.pointer (some ⟨mb, 0, none⟩)) := hJ.val 2 (by decide) rfl (by simp [hpre])
      obtain ⟨x0, x2, y0, y1⟩ := hc _ hJ.ph.1
      refine wpOp_of rfl rfl ?_
      go_simp
      exact hJ.step (i := 3) (by decide) rfl (ag11T hT) ag11PH ag11I (fun _ => rfl) (hJ.ph.pure (by decide) (by decide) (by decide) (by decide))
    · refine wpOp_of rfl rfl ?_
      go_simp
      exact hJ.step (i := 4) (by decide) rfl (ag11T hT) ag11PH ag11I (fun _ => rfl) (hJ.ph.pure (by decide) (by decide) (by decide) (by decide))
    · have e80 : tm[80]? = some (.pointer (some ⟨mb, 0, none⟩)) := hJ.val 4 (by decide) rfl (by simp [hpre])
      refine wpOp_of rfl rfl ?_
      go_simp
      exact hJ.step (i := 5) (by decide) rfl (ag11T hT) ag11PH ag11I (fun _ => rfl) (hJ.ph.pure (by decide) (by decide) (by decide) (by decide))
    · have e81 : tm[81]? = some (.pointer (some ⟨mb, 0, none⟩)) := hJ.val 5 (by decide) rfl (by simp [hpre])
      refine wpOp_of rfl rfl ?_
      go_simp
      exact hJ.step (i := 6) (by decide) rfl (ag11T hT) ag11PH ag11I (fun _ => rfl) (hJ.ph.pure (by decide) (by decide) (by decide) (by decide))
    · have e82 : tm[82]? = some (.pointer (some ⟨mb, 2, none⟩)) := hJ.val 6 (by decide) rfl (by simp [hpre])
      obtain ⟨x0, x2, y0, y1⟩ := hc _ hJ.ph.1
      refine wpOp_of rfl rfl ?_
      go_simp
      exact hJ.step (i := 7) (by decide) rfl (ag11T hT) ag11PH ag11I (fun _ => rfl) (hJ.ph.pure (by decide) (by decide) (by decide) (by decide))
    · refine wpOp_of rfl rfl ?_
      go_simp
      exact hJ.step (i := 8) (by decide) rfl (ag11T hT) ag11PH ag11I (fun _ => rfl) (hJ.ph.pure (by decide) (by decide) (by decide) (by decide))
    · have e83 : tm[83]? = some (.slice (some ⟨g, 0, none⟩) n cR) := hJ.val 7 (by decide) rfl (by simp [hpre])
      have e84 : tm[84]? = some (.int .i64 y) := hJ.val 8 (by decide) rfl (by simp [hpre])
      refine wpOp_of rfl rfl ?_
      go_simp
      exact hJ.step (i := 9) (by decide) rfl (ag11T hT) ag11PH ag11I (fun _ => rfl) (hJ.ph.pure (by decide) (by decide) (by decide) (by decide))
    · have e85 : tm[85]? = some (.pointer (some ⟨g, y * 2, none⟩)) := hJ.val 9 (by decide) rfl (by simp [hpre])
      obtain ⟨x0, x2, y0, y1⟩ := hc _ hJ.ph.1
      refine wpOp_of rfl rfl ?_
      go_simp
      exact hJ.step (i := 10) (by decide) rfl (ag11T hT) ag11PH ag11I (fun _ => rfl) (hJ.ph.pure (by decide) (by decide) (by decide) (by decide))
    · refine wpOp_of rfl rfl ?_
      go_simp
      exact hJ.step (i := 11) (by decide) rfl (ag11T hT) ag11PH ag11I (fun _ => rfl) (hJ.ph.pure (by decide) (by decide) (by decide) (by decide))
    · have e79 : tm[79]? = some (.pointer (some ⟨b, 0, none⟩)) := hJ.val 3 (by decide) rfl (by simp [hpre])
      have e86 : tm[86]? = some (.agg #[.int .i64 ri, .int .u32 rg]) := hJ.val 10 (by decide) rfl (by simp [hpre])
      have e87 : tm[87]? = some (.int .i64 j) := hJ.val 11 (by decide) rfl (by simp [hpre])
      have hz := hJ.ph.2.1
      rw [hfi, if_neg (by decide)] at hz
      refine wpOp_of rfl rfl ?_
      go_simp
      go_at_call 18
      refine (hcall _ hz).mono ?_
      rintro e w' ⟨rfl, hz2, hk⟩
      go_simp
      exact hJ.step (i := 12) (by decide) rfl (ag11T hT) ag11PH ag11I (fun _ => rfl) (hJ.ph.call (by decide) (by decide) (by decide) hS hz2 hk)
    · have e88 : tm[88]? = some (.tuple #[.agg #[.int .i64 q.1, .int .u32 q.2], .int .i64 E]) := hJ.val 12 (by decide) rfl (by simp [hpre])
      refine wpOp_of rfl rfl ?_
      go_simp
      exact hJ.step (i := 13) (by decide) rfl (ag11T hT) ag11PH ag11I (fun _ => rfl) (hJ.ph.pure (by decide) (by decide) (by decide) (by decide))
    · have e75 : tm[75]? = some (.tuple #[.agg #[.int .i64 q.1, .int .u32 q.2], .int .i64 E]) := hJ.val 13 (by decide) rfl (by simp [hpre])
      refine wpOp_of rfl rfl ?_
      go_simp
      exact hJ.step (i := 14) (by decide) rfl (ag11T hT) ag11PH ag11I (fun _ => rfl) (hJ.ph.pure (by decide) (by decide) (by decide) (by decide))
    · have e75 : tm[75]? = some (.tuple #[.agg #[.int .i64 q.1, .int .u32 q.2], .int .i64 E]) := hJ.val 13 (by decide) rfl (by simp [hpre])
      refine wpOp_of rfl rfl ?_
      go_simp
      exact hJ.step (i := 15) (by decide) rfl (ag11T hT) ag11PH ag11I (fun _ => rfl) (hJ.ph.pure (by decide) (by decide) (by decide) (by decide))
    · refine wpOp_of rfl rfl ?_
      go_simp
      refine hJ.step (i := 16) (by decide) rfl (ag11T hT) ag11PH ag11I (fun h => by cases h) (hJ.ph.alloc (by decide) (by decide) ?_ (by rw [hJ.sz, hT]; decide) za1 za2)
      cases c : f 17 with
      | false => rfl
      | true => exact absurd (by simp [cls c] : f 16 = true) (by rw [hfi]; decide)
    · have hfa : f 16 = true := by simp [hpre]
      have e89 : tm[89]? = some (.agg #[.int .i64 q.1, .int .u32 q.2]) := hJ.val 14 (by decide) rfl (by simp [hpre])
      obtain ⟨B, b1, b2, b3⟩ := hJ.ph.2.2 hfa
      rw [hfi] at b2
      have b2 : Bk W B 34 (rfc (0, 0)) := b2
      obtain ⟨x0, x1⟩ := b2.rf
      obtain ⟨z0, z1⟩ := b2.rfz
      have hfc : f 12 = true := by simp [hpre]
      refine wpOp_of rfl rfl ?_
      go_simp
      exact hJ.nodst (i := 17) rfl (hJ.ph.store (by decide) (by decide) hfc b1 b2 b3 zs)
  · rintro f a W ⟨tm, rfl, hJ⟩ hal
    have e90 : tm[90]? = some (.int .i64 E) := hJ.val 15 (by decide) rfl (hal 15 (by decide))
    refine wpOp_of rfl rfl ?_
    go_simp
    obtain ⟨hk, hz, hb⟩ := hJ.ph
    rw [hal 12 (by decide), if_pos rfl] at hz
    obtain ⟨B, b1, b2, b3⟩ := hb (hal 16 (by decide))
    rw [hal 17 (by decide), if_pos rfl] at b2
    have := hQ (fun k => (tm[ag11D k]?).getD undef) B W hk hz b2 b3 (by show (tm[8]?).getD undef = _; rw [b1]; rfl)
    rw [← hJ.frame (ag11T hT) ag11I] at this
    exact this
end Go.Proofs.Ytfnhkapbfgofkaa
