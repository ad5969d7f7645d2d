/- The layer U, joined. -/
import Derived.Test.YtpinmiplefidpaaGreatDoorMU
import Derived.Orders
import Derived.StillTailTactics
import Derived.Deep.QuietTactic
import Derived.BigQuiet
import Derived.Maps.AppendAt
import Derived.Laws.OwnMore
import Derived.Deep.Cut
import Derived.Deep.CutRange
import Derived.Laws.ResultCell
import Derived.Lib.AppendZeros
import Derived.Lib.SliceRun
namespace Go.Proofs.YtpinmiplefidpaaGreatDoor.BF
open Go.RowKit

theorem wpOp_of {P : Program} {ops : Array Oper} {Q : Exit → Act → World → Prop} {i : Nat} {o : Oper} {K : Act → World → Prop} {a : Act} {w : World} (ho : ops[i]? = some o) (hg : o.guard = none) (h : o.wp P a w K Q) : wpOp P ops Q i K a w := by
  unfold wpOp
  rw [ho]
  have hw : Region.wanted o (yielded ops a.tmps) = true := by simp [Region.wanted, hg]
  simp only [hw, if_true]
  exact .inl h

/-- J f a w: the operations that f names have come up, and no others. -/
theorem region_by {P : Program} {ops : Array Oper} {Q : Exit → Act → World → Prop} {id : Nat} {a : Act} {w : World}
    (J : (Nat → Bool) → Act → World → Prop) (hm : P.follows .mixedOrders = true)
    (hord : ∀ i o, ops[i]? = some o → ∀ e ∈ o.after, Region.binds .any e = true → e.on < i)
    (h0 : J (fun _ => false) a w.drew)
    (hs : ∀ (f : Nat → Bool) (a : Act) (w : World), J f a w → ∀ i o, ops[i]? = some o → f i = false → (∀ e ∈ o.after, Region.binds .any e = true → f e.on = true) → wpOp P ops Q i (J (fun j => if j = i then true else f j)) a w)
    (he : ∀ f a w, J f a w → (∀ i, i < ops.size → f i = true) → Q .normal a w) : (Code.region id ops true).wp P Q a w := by
  have all : ∀ (listed : Array Bool), listed.size = ops.size → Region.ready .any ops listed = [] → ∀ i, i < ops.size → listed.getD i false = true := by
    intro listed hsz hr i
    induction i using Nat.strongRecOn with
    | ind i ih =>
      intro hi
      cases hc : listed.getD i false with
      | true => rfl
      | false =>
        exfalso
        have : i ∈ Region.ready .any ops listed := by
          refine mem_ready.2 ⟨?_, ops[i], Array.getElem?_eq_getElem hi, fun e hee hb => ?_⟩
          · simp only [Array.getD_eq_getD_getElem?] at hc ⊢
            rw [Array.getElem?_eq_getElem (by omega)] at hc ⊢
            exact hc
          · have hlt := hord i ops[i] (Array.getElem?_eq_getElem hi) e hee hb
            exact ih e.on hlt (by omega)
        rw [hr] at this
        cases this
  have key : ∀ (fuel : Nat) (listed : Array Bool) (f : Nat → Bool) (a : Act) (w : World), listed.size = ops.size → (∀ j, listed.getD j false = f j) → listed.toList.countP (fun b => !b) ≤ fuel → J f a w → wpAny P .any ops Q fuel listed a w := by
    intro fuel
    induction fuel with
    | zero =>
      intro listed f a w hsz hf hc hJ
      have h1 : ∀ i, i < ops.size → f i = true := fun i hi => by
        have h2 := List.countP_eq_zero.1 (Nat.le_zero.1 hc) (listed[i]'(by omega)) (by simp)
        rw [← hf, Array.getD_eq_getD_getElem?, Array.getElem?_eq_getElem (by omega)]
        simpa using h2
      refine ⟨?_, he f a w hJ h1⟩
      apply List.eq_nil_iff_forall_not_mem.2
      intro j hj
      obtain ⟨g1, o, ho, _⟩ := mem_ready.1 hj
      have hjlt : j < ops.size := (Array.getElem?_eq_some_iff.1 ho).1
      have := h1 j hjlt
      rw [← hf] at this
      rw [Array.getD_eq_getD_getElem?, Array.getElem?_eq_getElem (by omega)] at g1 this
      simp at g1 this
      rw [g1] at this; cases this
    | succ fuel ih =>
      intro listed f a w hsz hf hc hJ
      refine ⟨fun hr => he f a w hJ fun i hi => by rw [← hf]; exact all listed hsz hr i hi, fun i hi => ?_⟩
      obtain ⟨g1, o, ho, g2⟩ := mem_ready.1 hi
      have hilt : i < ops.size := (Array.getElem?_eq_some_iff.1 ho).1
      have g3 : f i = false := by
        rw [← hf]
        rw [Array.getD_eq_getD_getElem?, Array.getElem?_eq_getElem (by omega)] at g1 ⊢
        exact g1
      refine wpOp_mono (fun a' w' h => ?_) (hs f a w hJ i o ho g3 fun e hee hb => by rw [← hf]; exact g2 e hee hb)
      refine ih _ _ a' w' (by simp [hsz]) (fun j => ?_) ?_ h
      · simp only [Array.getD_eq_getD_getElem?, Array.getElem?_setIfInBounds]
        by_cases hj : j = i
        · subst hj; simp [hsz, hilt]
        · rw [if_neg (fun e => hj e.symm), if_neg hj, ← hf, Array.getD_eq_getD_getElem?]
      · have hb : listed.toList[i]'(by simp [hsz, hilt]) = false := by
          rw [Array.getD_eq_getD_getElem?, Array.getElem?_eq_getElem (by omega)] at g1
          simpa using g1
        rw [Array.toList_setIfInBounds, List.countP_set (h := by simp [hsz, hilt]), hb]
        simp only [Bool.not_false, Bool.not_true, if_true, Bool.false_eq_true, if_false]
        omega
  refine wp_region_any hm ?_
  refine key ops.size (Array.replicate ops.size false) (fun _ => false) a w.drew (by simp) (fun j => ?_) ?_ h0
  · rw [Array.getD_eq_getD_getElem?, Array.getElem?_replicate]
    split <;> rfl
  · refine Nat.le_trans List.countP_le_length ?_
    simp

/-- A region whose last operation comes behind all others: J holds up to it. -/
theorem region_last {P : Program} {ops : Array Oper} {Q : Exit → Act → World → Prop} {id : Nat} {a : Act} {w : World} (m : Nat)
    (J : (Nat → Bool) → Act → World → Prop) (hm : P.follows .mixedOrders = true) (hsz : ops.size = m + 1)
    (hord : ∀ i o, ops[i]? = some o → ∀ e ∈ o.after, Region.binds .any e = true → e.on < i)
    (hall : ∀ f, Closed ops f → (∀ o, ops[m]? = some o → ∀ e ∈ o.after, Region.binds .any e = true → f e.on = true) → ∀ i, i < m → f i = true)
    (h0 : J (fun _ => false) a w.drew)
    (hs : ∀ (f : Nat → Bool) (a : Act) (w : World), J f a w → Closed ops f → ∀ i o, ops[i]? = some o → i < m → f i = false → (∀ e ∈ o.after, Region.binds .any e = true → f e.on = true) → wpOp P ops Q i (J (more f i)) a w)
    (hl : ∀ (f : Nat → Bool) (a : Act) (w : World), J f a w → (∀ i, i < m → f i = true) → wpOp P ops Q m (Q .normal) a w) : (Code.region id ops true).wp P Q a w := by
  refine region_by (fun f a w => Closed ops f ∧ ((f m = false ∧ J f a w) ∨ (f m = true ∧ (∀ i, i < m → f i = true) ∧ Q .normal a w))) hm hord ⟨(fun i o _ h => by cases h), .inl ⟨rfl, h0⟩⟩ ?_ ?_
  · rintro f a w ⟨hc, h⟩ i o ho hfi hpre
    have hc2 : Closed ops (more f i) := fun j o' ho' hj e hee hb => by
      unfold more at hj ⊢
      by_cases he : e.on = i
      · rw [if_pos he]
      · rw [if_neg he]
        by_cases hji : j = i
        · subst hji
          rw [ho] at ho'
          obtain rfl := Option.some.inj ho'
          exact hpre e hee hb
        · rw [if_neg hji] at hj
          exact hc j o' ho' hj e hee hb
    have hilt : i < m + 1 := by rw [← hsz]; exact (Array.getElem?_eq_some_iff.1 ho).1
    rcases h with ⟨hfm, hJ⟩ | ⟨hfm, hal, _⟩
    · by_cases him : i = m
      · subst him
        have hal := hall f hc fun o' ho' => by
          rw [ho] at ho'
          obtain rfl := Option.some.inj ho'
          exact hpre
        refine wpOp_mono (fun a' w' h => ⟨hc2, .inr ⟨if_pos rfl, fun j hj => ?_, h⟩⟩) (hl f a w hJ hal)
        show (if j = i then true else f j) = true
        rw [if_neg (by omega)]
        exact hal j hj
      · refine wpOp_mono (fun a' w' h => ⟨hc2, .inl ⟨?_, h⟩⟩) (hs f a w hJ hc i o ho (by omega) hfi hpre)
        show (if m = i then true else f m) = false
        rw [if_neg (fun e => him e.symm)]
        exact hfm
    · exfalso
      by_cases him : i = m
      · subst him; rw [hfm] at hfi; cases hfi
      · rw [hal i (by omega)] at hfi; cases hfi
  · rintro f a w ⟨_, ⟨hfm, _⟩ | ⟨_, _, h⟩⟩ hal
    · rw [hal m (by omega)] at hfm; cases hfm
    · exact h

end Go.Proofs.YtpinmiplefidpaaGreatDoor.BF

namespace Go.Proofs.YtpinmiplefidpaaGreatDoor.BF

/-! ### the lowest free id -/
theorem free_head {T : Tb} {i : Nat} (h : ∀ j, j < i → T.s j ≠ 0) (h0 : T.s i = 0) (hi : i < T.n) : ∃ r, T.free = i :: r := by
  have key : ∀ d j, j + d = i → selFrom T.s 0 j T.n = selFrom T.s 0 i T.n := by
    intro d
    induction d with
    | zero => intro j e; rw [Nat.add_zero] at e; rw [e]
    | succ d ih => intro j e; rw [selFrom_step T.s 0 (show j < T.n by omega), if_neg (h j (by omega)), List.nil_append]; exact ih (j + 1) (by omega)
  refine ⟨selFrom T.s 0 (i + 1) T.n, ?_⟩
  unfold Tb.free
  rw [← selFrom_zero, key i 0 (by omega), selFrom_step T.s 0 hi, if_pos h0]; rfl
theorem free_none {T : Tb} (h : ∀ j, j < T.n → T.s j ≠ 0) : T.free = [] := by
  unfold Tb.free
  rw [List.eq_nil_iff_forall_not_mem]
  intro i hi
  exact h i (mem_sel.1 hi).1 (mem_sel.1 hi).2
theorem held_none {T : Tb} (h : ∀ j, j < T.n → T.s j ≠ 1) : T.held = [] := by
  unfold Tb.held
  rw [List.eq_nil_iff_forall_not_mem]
  intro i hi
  exact h i (mem_sel.1 hi).1 (mem_sel.1 hi).2
/-- Pin succeeds where an id is free and there is room. -/
theorem Po.can_ok {P : Po} {x i : Nat} {r : List Nat} (h1 : 1 ≤ x) (h2 : x ≤ 65536) (h3 : P.used + x ≤ P.room) (h4 : P.t.free = i :: r) : P.can (x : Int) = 0 := by
  unfold Po.can
  rw [if_neg (by omega), if_neg (by omega), h4]
theorem Po.can_none {P : Po} {x : Nat} (h1 : 1 ≤ x) (h2 : x ≤ 65536) (h4 : P.t.free = []) : P.can (x : Int) = 4 := by
  unfold Po.can
  rw [if_neg (by omega), h4]
  split <;> rfl
theorem Po.used_none {P : Po} (h : P.t.held = []) : P.used = 0 := by unfold Po.used; rw [h]; rfl
theorem Po.chk_put {P : Po} {i : Nat} (hi : i < P.t.n) (x : Nat) : (P.put i x).chk 2 i (P.t.g i) = 0 := by
  have h1 : (P.put i x).t.s i = 1 := by simp [Po.put, Tb.took, Go.Proofs.YtpinmiplefidpaaGreatDoor.put]
  exact Po.chk_held (P := P.put i x) hi h1
theorem Po.unpin_of {P : Po} {i : Nat} {g : Int} (h : P.chk 2 i g = 0) : P.unpin 2 i g = P.gave i := by
  unfold Po.unpin; rw [if_pos h, Int.toNat_natCast]
end Go.Proofs.YtpinmiplefidpaaGreatDoor.BF

namespace Go.Proofs.YtpinmiplefidpaaGreatDoor.BF
open Go.RowKit

/-- The bytes that the document keeps of an id. -/
def Po.bx (P : Po) (i : Nat) : Nat := if P.t.s i = 1 then P.m i else 0
/-- The four cells of an id. -/
def dcl (s g x : Nat) : List Value := [.bool (s == 1), .bool (s == 2), .int .u32 g, .int .i64 x]
def Po.dcls (F : Po) (k : Nat) : List Value := (List.range k).flatMap fun i => dcl (F.t.s i) (F.t.g i) (F.bx i)
theorem dcls_len (F : Po) : ∀ k, (F.dcls k).length = k * 4
  | 0 => rfl
  | k + 1 => by
    have := dcls_len F k
    unfold Po.dcls at *
    rw [List.range_succ, List.flatMap_append, List.length_append, this]
    simp [dcl]; omega
theorem dcls_snoc (F : Po) (k : Nat) : F.dcls (k + 1) = F.dcls k ++ dcl (F.t.s k) (F.t.g k) (F.bx k) := by
  unfold Po.dcls
  rw [List.range_succ, List.flatMap_append]; simp
theorem dcls_at (F : Po) : ∀ (k i : Nat), i < k → ∀ q, q < 4 → (F.dcls k)[i * 4 + q]? = (dcl (F.t.s i) (F.t.g i) (F.bx i))[q]?
  | 0, i, h, _, _ => by omega
  | k + 1, i, h, q, hq => by
    rw [dcls_snoc]
    by_cases e : i = k
    · subst e
      rw [List.getElem?_append_right (by rw [dcls_len]; omega), dcls_len, show i * 4 + q - i * 4 = q by omega]
    · rw [List.getElem?_append_left (by rw [dcls_len]; omega)]; exact dcls_at F k i (by omega) q hq
/-- The document's pool: its struct's block c, its ids' block d. -/
structure DW (w : World) (c d : Nat) (F : Po) : Prop where
  ok : F.Ok
  at_ : ∃ (cap : Nat) (cur : Array Value), Bk w c 174 #[.bool true, .int .i64 F.room, .slice (some ⟨d, 0, none⟩) F.t.n cap] ∧ Bk w d 176 cur ∧ cur.size = cap * 4 ∧ F.t.n ≤ cap ∧ cap ≤ maxLen ∧ ∀ i, i < F.t.n → ∀ q, q < 4 → cur[i * 4 + q]? = (dcl (F.t.s i) (F.t.g i) (F.bx i))[q]?
section
variable {w w' : World} {c d : Nat} {F : Po}
theorem DW.ct (h : DW w c d F) : c < w.heap.size := by obtain ⟨_, _, h1, _⟩ := h.at_; exact h1.lt
theorem DW.dt (h : DW w c d F) : d < w.heap.size := by obtain ⟨_, _, _, h1, _⟩ := h.at_; exact h1.lt
theorem DW.ne (h : DW w c d F) : c ≠ d := by
  obtain ⟨_, _, h1, h2, _⟩ := h.at_
  rintro rfl
  exact absurd (h1.uniq h2).1 (by decide)
theorem DW.same (h : DW w c d F) (e1 : w'.heap[c]? = w.heap[c]?) (e2 : w'.heap[d]? = w.heap[d]?) : DW w' c d F :=
  ⟨h.ok, by obtain ⟨cap, cur, h1, h2, hr⟩ := h.at_; exact ⟨cap, cur, h1.same e1, h2.same e2, hr⟩⟩
theorem DW.kept {S : Nat → Prop} (h : DW w c d F) (k : Kept S w w') (hc : ¬ S c) (hd : ¬ S d) : DW w' c d F := h.same (k.block c h.ct hc) (k.block d h.dt hd)
theorem DW.below (h : DW w c d F) (k : Below w.heap.size w w') : DW w' c d F := h.same (k.block c h.ct) (k.block d h.dt)
theorem DW.c0 (h : DW w c d F) : ∃ cap, w.cell? ⟨c, 0, none⟩ = some (.bool true) ∧ w.cell? ⟨c, 1, none⟩ = some (.int .i64 F.room) ∧ w.cell? ⟨c, 2, none⟩ = some (.slice (some ⟨d, 0, none⟩) F.t.n cap) ∧ F.t.n ≤ cap ∧ cap ≤ 9223372036854775807 := by
  obtain ⟨cap, _, h1, _, _, h2, h3, _⟩ := h.at_; exact ⟨cap, h1.cell 0, h1.cell 1, h1.cell 2, h2, by unfold maxLen at h3; omega⟩
theorem DW.ci (h : DW w c d F) {i : Nat} (hi : i < F.t.n) : w.cell? ⟨d, i * 4, none⟩ = some (.bool (F.t.s i == 1)) ∧ w.cell? ⟨d, i * 4 + 1, none⟩ = some (.bool (F.t.s i == 2)) ∧ w.cell? ⟨d, i * 4 + 2, none⟩ = some (.int .u32 (F.t.g i)) ∧ w.cell? ⟨d, i * 4 + 3, none⟩ = some (.int .i64 (F.bx i)) := by
  obtain ⟨_, cur, _, h1, _, _, _, h2⟩ := h.at_
  refine ⟨?_, ?_, ?_, ?_⟩ <;> rw [h1.cell]
  · exact h2 i hi 0 (by omega)
  · exact h2 i hi 1 (by omega)
  · exact h2 i hi 2 (by omega)
  · exact h2 i hi 3 (by omega)
end
set_option maxHeartbeats 1000000 in
set_option maxRecDepth 100000 in
theorem dvalid_eq (c d : Nat) (F : Po) (w : World) (h : DW w c d F) : Calls Tryz.prog 130 #[.pointer (some ⟨c, 0, none⟩)] w fun e w' => e = .returned (.bool true) ∧ w = w' := by
  obtain ⟨cap, c0, c1, c2, h1, h2⟩ := h.c0
  clear h
  go_enter Tryz.func130, Tryz.ntmps130
  go_wp2
  go_ret
  exact ⟨rfl, rfl⟩
theorem dvalid_ok (c d : Nat) (F : Po) (w : World) (h : DW w c d F) : Calls Tryz.prog 130 #[.pointer (some ⟨c, 0, none⟩)] w fun e w' => e = .returned (.bool true) ∧ Below w.heap.size w w' :=
  (dvalid_eq c d F w h).mono fun _ _ h => ⟨h.1, by rw [← h.2]; exact Below.refl _ _⟩
set_option maxRecDepth 100000 in
theorem dvalid_nil (w : World) : Calls Tryz.prog 130 #[.pointer none] w fun e w' => e = .returned (.bool false) ∧ Below w.heap.size w w' := by
  go_enter Tryz.func130, Tryz.ntmps130
  go_wp2
  go_ret
  exact ⟨rfl, Below.refl _ _⟩
/-- The three cells of a resource, boxed. -/
theorem box_o {w w2 : World} {x y z : Value} (hb : Below (w.alloc (.cells #[x, y, z] 25)).heap.size (w.alloc (.cells #[x, y, z] 25)) w2) : w2.cell? ⟨w.heap.size, 0, none⟩ = some x ∧ w2.cell? ⟨w.heap.size, 1, none⟩ = some y ∧ w2.cell? ⟨w.heap.size, 2, none⟩ = some z ∧ w.heap.size < w2.heap.size := by
  have h := (Bk.new w 25 #[x, y, z]).below hb
  exact ⟨h.cell 0, h.cell 1, h.cell 2, h.lt⟩
set_option maxHeartbeats 2000000 in
set_option maxRecDepth 100000 in
theorem dfind_kind (c d : Nat) (F : Po) (x y z : Int) (hx : x ≠ 2) (w : World) (h : DW w c d F) : Calls Tryz.prog 115 #[.pointer (some ⟨c, 0, none⟩), .agg #[.int .i64 x, .int .i64 y, .int .u32 z]] w fun e w' => e = .returned (.int .i64 2) ∧ Below w.heap.size w w' := by
  have hx2 : (x != 2) = true := by simpa using hx
  have HV : Hid (∀ W, Below w.heap.size w W → Calls Tryz.prog 130 #[.pointer (some ⟨c, 0, none⟩)] W fun e w' => e = .returned (.bool true) ∧ Below W.heap.size W w') := fun W hW => dvalid_ok c d F W (h.below hW)
  clear h hx
  go_enter Tryz.func115, Tryz.ntmps115
  go_wp2_with (go_at_call 130; refine (HV.out _ ((Below.refl _ _).alloc (Nat.le_refl _) _)).mono ?_; rintro e w2 ⟨rfl, hb2⟩; have HB := Lib.hid (bel2 ((Below.refl _ _).alloc (Nat.le_refl _) _) hb2); obtain ⟨q0, q1, q2, q3⟩ := box_o hb2; clear hb2)
  go_ret
  exact ⟨rfl, HB.out⟩
set_option maxHeartbeats 2000000 in
set_option maxRecDepth 100000 in
theorem dfind_neg (c d : Nat) (F : Po) (y z : Int) (hy : y < 0) (w : World) (h : DW w c d F) : Calls Tryz.prog 115 #[.pointer (some ⟨c, 0, none⟩), .agg #[.int .i64 2, .int .i64 y, .int .u32 z]] w fun e w' => e = .returned (.int .i64 3) ∧ Below w.heap.size w w' := by
  have HV : Hid (∀ W, Below w.heap.size w W → Calls Tryz.prog 130 #[.pointer (some ⟨c, 0, none⟩)] W fun e w' => e = .returned (.bool true) ∧ Below W.heap.size W w') := fun W hW => dvalid_ok c d F W (h.below hW)
  clear h
  go_enter Tryz.func115, Tryz.ntmps115
  go_wp2_with (go_at_call 130; refine (HV.out _ ((Below.refl _ _).alloc (Nat.le_refl _) _)).mono ?_; rintro e w2 ⟨rfl, hb2⟩; have HB := Lib.hid (bel2 ((Below.refl _ _).alloc (Nat.le_refl _) _) hb2); obtain ⟨q0, q1, q2, q3⟩ := box_o hb2; clear hb2)
  go_quiet (fail)
  go_wp2
  go_ret
  exact ⟨rfl, bel_drewN HB.out _⟩
set_option maxHeartbeats 4000000 in
set_option maxRecDepth 100000 in
theorem dfind_at (c d i : Nat) (F : Po) (z : Int) (E : Int) (hE : F.t.chk i z = E) (w : World) (h : DW w c d F) : Calls Tryz.prog 115 #[.pointer (some ⟨c, 0, none⟩), .agg #[.int .i64 2, .int .i64 i, .int .u32 z]] w fun e w' => e = .returned (.int .i64 E) ∧ Below w.heap.size w w' := by
  have HV : Hid (∀ W, Below w.heap.size w W → Calls Tryz.prog 130 #[.pointer (some ⟨c, 0, none⟩)] W fun e w' => e = .returned (.bool true) ∧ Below W.heap.size W w') := fun W hW => dvalid_ok c d F W (h.below hW)
  have HC : Hid (∀ W, Below w.heap.size w W → DW W c d F) := fun W hW => h.below hW
  have hnb : F.t.n ≤ 64 := h.ok.hi
  obtain ⟨n, hn⟩ : ∃ n, F.t.n = n := ⟨_, rfl⟩
  rw [hn] at hnb
  by_cases hin : i < n
  · have hs : (F.t.s i = 1 ∧ (F.t.g i : Int) = z ∧ E = 0) ∨ (F.t.s i = 1 ∧ (F.t.g i : Int) ≠ z ∧ E = 7) ∨ (F.t.s i ≠ 1 ∧ E = 7) := by
      rw [← hE]
      unfold Tb.chk
      rw [if_neg (by rw [hn]; omega)]
      simp only [Int.toNat_natCast]
      by_cases h1 : F.t.s i = 1
      · by_cases h2 : (F.t.g i : Int) = z
        · exact .inl ⟨h1, h2, if_pos ⟨h1, h2⟩⟩
        · exact .inr (.inl ⟨h1, h2, if_neg fun e => h2 e.2⟩)
      · exact .inr (.inr ⟨h1, if_neg fun e => h1 e.1⟩)
    clear h hE
    have HN := Lib.hid hn
    clear hn
    rcases hs with ⟨h1, h2, rfl⟩ | ⟨h1, h2, rfl⟩ | ⟨h1, rfl⟩
    · have hb : Hid ((F.t.s i == 1) = true) := by simp [h1, Hid]
      have H2 := Lib.hid h2
      clear h1 h2
      go_enter Tryz.func115, Tryz.ntmps115
      go_wp2_with (go_at_call 130; refine (HV.out _ ((Below.refl _ _).alloc (Nat.le_refl _) _)).mono ?_; rintro e w2 ⟨rfl, hb2⟩; have HB := Lib.hid (bel2 ((Below.refl _ _).alloc (Nat.le_refl _) _) hb2); obtain ⟨q0, q1, q2, q3⟩ := box_o hb2; clear hb2)
      obtain ⟨cap, c0, c1, c2, hc1, hc2⟩ := (HC.out w2 HB.out).c0
      obtain ⟨i0, i1, i2, i3⟩ := (HC.out w2 HB.out).ci (i := i) (by rw [HN.out]; exact hin)
      rw [HN.out] at c2 hc1
      rw [hb.out] at i0
      clear i1 i3 c0 c1
      rw [H2.out] at i2
      go_quiet (fail)
      go_wp2
      go_quiet (fail)
      go_wp2
      go_ret
      exact ⟨rfl, bel_drewN (bel_drewN HB.out _) _⟩
    · have hb : Hid ((F.t.s i == 1) = true) := by simp [h1, Hid]
      have H2 := Lib.hid h2
      clear h1 h2
      go_enter Tryz.func115, Tryz.ntmps115
      go_wp2_with (go_at_call 130; refine (HV.out _ ((Below.refl _ _).alloc (Nat.le_refl _) _)).mono ?_; rintro e w2 ⟨rfl, hb2⟩; have HB := Lib.hid (bel2 ((Below.refl _ _).alloc (Nat.le_refl _) _) hb2); obtain ⟨q0, q1, q2, q3⟩ := box_o hb2; clear hb2)
      obtain ⟨cap, c0, c1, c2, hc1, hc2⟩ := (HC.out w2 HB.out).c0
      obtain ⟨i0, i1, i2, i3⟩ := (HC.out w2 HB.out).ci (i := i) (by rw [HN.out]; exact hin)
      rw [HN.out] at c2 hc1
      rw [hb.out] at i0
      clear i1 i3 c0 c1
      have hne : (((F.t.g i : Nat) : Int) != z) = true := by have := H2.out; simp; omega
      generalize F.t.g i = fg at *
      go_quiet (fail)
      go_wp2
      go_quiet (fail)
      go_wp2
      go_ret
      exact ⟨rfl, bel_drewN (bel_drewN HB.out _) _⟩
    · have hb : Hid ((F.t.s i == 1) = false) := by simp [h1, Hid]
      clear h1
      go_enter Tryz.func115, Tryz.ntmps115
      go_wp2_with (go_at_call 130; refine (HV.out _ ((Below.refl _ _).alloc (Nat.le_refl _) _)).mono ?_; rintro e w2 ⟨rfl, hb2⟩; have HB := Lib.hid (bel2 ((Below.refl _ _).alloc (Nat.le_refl _) _) hb2); obtain ⟨q0, q1, q2, q3⟩ := box_o hb2; clear hb2)
      obtain ⟨cap, c0, c1, c2, hc1, hc2⟩ := (HC.out w2 HB.out).c0
      obtain ⟨i0, i1, i2, i3⟩ := (HC.out w2 HB.out).ci (i := i) (by rw [HN.out]; exact hin)
      rw [HN.out] at c2 hc1
      rw [hb.out] at i0
      clear i1 i3 c0 c1
      generalize F.t.g i = fg at *
      go_quiet (fail)
      go_wp2
      go_quiet (fail)
      go_wp2
      go_ret
      exact ⟨rfl, bel_drewN (bel_drewN HB.out _) _⟩
  · obtain rfl : E = 3 := by
      rw [← hE]; unfold Tb.chk; rw [if_pos (.inr (by rw [hn]; omega))]
    clear h hE
    have HN := Lib.hid hn
    clear hn
    go_enter Tryz.func115, Tryz.ntmps115
    go_wp2_with (go_at_call 130; refine (HV.out _ ((Below.refl _ _).alloc (Nat.le_refl _) _)).mono ?_; rintro e w2 ⟨rfl, hb2⟩; have HB := Lib.hid (bel2 ((Below.refl _ _).alloc (Nat.le_refl _) _) hb2); obtain ⟨q0, q1, q2, q3⟩ := box_o hb2; clear hb2)
    obtain ⟨cap, c0, c1, c2, hc1, hc2⟩ := (HC.out w2 HB.out).c0
    rw [HN.out] at c2 hc1
    clear c0 c1
    go_quiet (fail)
    go_wp2
    go_ret
    exact ⟨rfl, bel_drewN HB.out _⟩
theorem dfind_ok (c d : Nat) (F : Po) (x y z : Int) (w : World) (h : DW w c d F) : Calls Tryz.prog 115 #[.pointer (some ⟨c, 0, none⟩), .agg #[.int .i64 x, .int .i64 y, .int .u32 z]] w fun e w' => e = .returned (.int .i64 (F.chk x y z)) ∧ Below w.heap.size w w' := by
  unfold Po.chk
  by_cases hx : x = 2
  · subst hx
    rw [if_pos rfl]
    by_cases hy : y < 0
    · have e : F.t.chk y z = 3 := by unfold Tb.chk; rw [if_pos (.inl hy)]
      rw [e]
      exact dfind_neg c d F y z hy w h
    · obtain ⟨i, rfl⟩ : ∃ i : Nat, y = (i : Int) := ⟨y.toNat, by omega⟩
      exact dfind_at c d i F z _ rfl w h
  · rw [if_neg hx]
    exact dfind_kind c d F x y z hx w h
end Go.Proofs.YtpinmiplefidpaaGreatDoor.BF

namespace Go.Proofs.YtpinmiplefidpaaGreatDoor.BF
open Go.RowKit

/-! ### set -/
theorem info_id : (Tryz.prog.info? 176).map (fun i => (i.zero, i.size, i.bytes)) = some (some (.agg #[.bool false, .bool false, .int .u32 0, .int .i64 0]), 4, 16) := by kernel_rfl
theorem dcl_one (s g x : Nat) : ∀ u ∈ dcl s g x, u.oneCell' = true := by
  intro u hu
  simp only [dcl, List.mem_cons, List.not_mem_nil, or_false] at hu
  rcases hu with rfl | rfl | rfl | rfl <;> rfl
theorem dcls_one (F : Po) (k : Nat) : ∀ u ∈ F.dcls k, u.oneCell' = true := by
  intro u hu
  obtain ⟨i, _, h⟩ := List.mem_flatMap.1 hu
  exact dcl_one _ _ _ u h
theorem own_id_form {w : World} {base n : Nat} {v : Value} {xs : List Value} (h : w.ownsRow base 176 4 v n xs) : ∃ p c, v = .slice p n c := by
  rcases h.2 with ⟨rfl, h0⟩ | ⟨g', cap, cur, rfl, _⟩
  · exact ⟨_, _, by rw [h0]⟩
  · exact ⟨_, _, rfl⟩
theorem dset_fin {w2 : World} {c g i n cap2 s0 g0 x : Nat} {F G : Po} {v0 : Value} {cur : Array Value} (hc : Bk w2 c 174 #[.bool true, .int .i64 F.room, v0]) (hg : Bk w2 g 176 cur) (hcg : c ≠ g) (h3 : n ≤ cap2) (h4 : cap2 ≤ maxLen) (h5 : cur.size = cap2 * 4) (hn0 : F.t.n = n)
    (hcur : ∀ j, j < n → ∀ q, q < 4 → cur[j * 4 + q]? = (dcl (F.t.s j) (F.t.g j) (F.bx j))[q]?) (hi : i < n) (hG : G.Ok) (hn : G.t.n = F.t.n) (hr : G.room = F.room) (hj : ∀ j, j ≠ i → G.t.s j = F.t.s j ∧ G.t.g j = F.t.g j ∧ G.bx j = F.bx j) (hd : dcl (G.t.s i) (G.t.g i) (G.bx i) = dcl s0 g0 x) :
    DW (((((w2.setCell ⟨g, i * 4, none⟩ (.bool (s0 == 1))).setCell ⟨g, i * 4 + 1, none⟩ (.bool (s0 == 2))).setCell ⟨g, i * 4 + 2, none⟩ (.int .u32 g0)).setCell ⟨g, i * 4 + 3, none⟩ (.int .i64 x)).setCell ⟨c, 2, none⟩ (.slice (some ⟨g, 0, none⟩) n cap2)) c g G := by
  have hsz : i * 4 + 4 ≤ cur.size := by rw [h5]; omega
  have k1 : Kept (· = g) w2 ((((w2.setCell ⟨g, i * 4, none⟩ (.bool (s0 == 1))).setCell ⟨g, i * 4 + 1, none⟩ (.bool (s0 == 2))).setCell ⟨g, i * 4 + 2, none⟩ (.int .u32 g0)).setCell ⟨g, i * 4 + 3, none⟩ (.int .i64 x)) := (((((Kept.refl _ w2).put1 _ _).put1 _ _).put1 _ _).put1 _ _)
  have b1 := ((((hg.put (i * 4) (.bool (s0 == 1))).put (i * 4 + 1) (.bool (s0 == 2))).put (i * 4 + 2) (.int .u32 g0)).put (i * 4 + 3) (.int .i64 x))
  have b2 := b1.kept ((Kept.refl (· = c) _).put1 2 (.slice (some ⟨g, 0, none⟩) n cap2)) (fun e => hcg e.symm)
  have c1 := (hc.kept k1 hcg).put 2 (.slice (some ⟨g, 0, none⟩) n cap2)
  refine ⟨hG, cap2, _, ?_, b2, by simp [h5], by rw [hn, hn0]; exact h3, h4, fun j hj' q hq => ?_⟩
  · rw [hr, hn, hn0]; exact c1
  · rw [hn, hn0] at hj'
    by_cases e : j = i
    · subst e
      rw [hd]
      have h0 : j * 4 < cur.size := by omega
      have h1 : j * 4 + 1 < cur.size := by omega
      have h2 : j * 4 + 2 < cur.size := by omega
      have h3 : j * 4 + 3 < cur.size := by omega
      match q, hq with
      | 0, _ => simp [h0, dcl]
      | 1, _ => simp [h1, dcl]
      | 2, _ => simp [h2, dcl]
      | 3, _ => simp [h3, dcl]
    · obtain ⟨e1, e2, e3⟩ := hj j e
      rw [e1, e2, e3, ← hcur j hj' q hq, Array.getElem?_setIfInBounds, if_neg (by omega), Array.getElem?_setIfInBounds, if_neg (by omega), Array.getElem?_setIfInBounds, if_neg (by omega), Array.getElem?_setIfInBounds, if_neg (by omega)]
def DSetP (c : Nat) (G : Po) (w w' : World) : Prop := ∃ d', w.heap.size ≤ d' ∧ DW w' c d' G ∧ Kept (· = c) w w'
set_option maxHeartbeats 2000000 in
set_option maxRecDepth 1000000 in
theorem dset_ok (c d i s g x : Nat) (F G : Po) (w : World) (h : DW w c d F) (hi : i < F.t.n) (hG : G.Ok) (hn : G.t.n = F.t.n) (hr : G.room = F.room) (hj : ∀ j, j ≠ i → G.t.s j = F.t.s j ∧ G.t.g j = F.t.g j ∧ G.bx j = F.bx j) (hd : dcl (G.t.s i) (G.t.g i) (G.bx i) = dcl s g x) :
    Calls Tryz.prog 116 #[.pointer (some ⟨c, 0, none⟩), .int .i64 i, .agg #[.bool (s == 1), .bool (s == 2), .int .u32 g, .int .i64 x]] w fun e w' => e = .returned (.tuple #[]) ∧ Hid (DSetP c G w w') := by
  obtain ⟨i0, hi0, hz0, hz1, hz2⟩ := info_parts info_id
  have hnb := h.ok.hi
  obtain ⟨n, hn0⟩ : ∃ n, F.t.n = n := ⟨_, rfl⟩
  have HN := Lib.hid hn0
  have hin : (i : Int) < n := by omega
  have hn64 : (n : Int) ≤ 64 := by omega
  have H1 := Lib.hid (h.below ((Below.refl _ w).alloc (Nat.le_refl _) (.cells #[.bool (s == 1), .bool (s == 2), .int .u32 g, .int .i64 x] 176)))
  have B1 := Lib.hid (Bk.new w 176 #[.bool (s == 1), .bool (s == 2), .int .u32 g, .int .i64 x])
  have K1 : Hid (Below w.heap.size w (w.alloc (.cells #[.bool (s == 1), .bool (s == 2), .int .u32 g, .int .i64 x] 176))) := (Below.refl _ w).alloc (Nat.le_refl _) _
  have S1 : Hid ((w.alloc (.cells #[.bool (s == 1), .bool (s == 2), .int .u32 g, .int .i64 x] 176)).heap.size = w.heap.size + 1) := by simp [Hid]
  have HCW : Hid (c < w.heap.size ∧ d < w.heap.size) := ⟨h.ct, h.dt⟩
  have FI : Hid (∀ (w2 : World) (g' cap2 : Nat) (v0 : Value) (cur : Array Value), Below w.heap.size w w2 → w.heap.size ≤ g' → Bk w2 c 174 #[.bool true, .int .i64 F.room, v0] → Bk w2 g' 176 cur → n ≤ cap2 → cap2 ≤ maxLen → cur.size = cap2 * 4 → (∀ j, j < n → ∀ q, q < 4 → cur[j * 4 + q]? = (dcl (F.t.s j) (F.t.g j) (F.bx j))[q]?) →
      DSetP c G w (((((w2.setCell ⟨g', i * 4, none⟩ (.bool (s == 1))).setCell ⟨g', i * 4 + 1, none⟩ (.bool (s == 2))).setCell ⟨g', i * 4 + 2, none⟩ (.int .u32 g)).setCell ⟨g', i * 4 + 3, none⟩ (.int .i64 x)).setCell ⟨c, 2, none⟩ (.slice (some ⟨g', 0, none⟩) n cap2))) := fun w2 g' cap2 v0 cur hb hg' b1 b2 h3 h4 h5 h6 => by
    have hct := h.ct
    refine ⟨g', hg', dset_fin b1 b2 (by omega) h3 h4 h5 hn0 h6 (by omega) hG hn hr hj hd, ?_⟩
    have k2 : Kept (fun k => k = c ∨ k = g') w2 (((((w2.setCell ⟨g', i * 4, none⟩ (.bool (s == 1))).setCell ⟨g', i * 4 + 1, none⟩ (.bool (s == 2))).setCell ⟨g', i * 4 + 2, none⟩ (.int .u32 g)).setCell ⟨g', i * 4 + 3, none⟩ (.int .i64 x)).setCell ⟨c, 2, none⟩ (.slice (some ⟨g', 0, none⟩) n cap2)) :=
      (((((Kept.refl _ w2).put (p := ⟨g', i * 4, none⟩) (.inr (.inr rfl)) _).put (p := ⟨g', i * 4 + 1, none⟩) (.inr (.inr rfl)) _).put (p := ⟨g', i * 4 + 2, none⟩) (.inr (.inr rfl)) _).put (p := ⟨g', i * 4 + 3, none⟩) (.inr (.inr rfl)) _).put (p := ⟨c, 2, none⟩) (.inr (.inl rfl)) _
    have k3 : Kept (fun k => k = c ∨ k = g') w _ := (Kept.of_below hb).trans k2
    exact k3.mono fun k hk e => by rcases e with e | e; exact e; omega
  clear h hG hn hr hj hd hn0 hnb hi
  go_enter Tryz.func116, Tryz.ntmps116
  go_upto_region 1 with fail
  generalize hw1 : w.alloc (.cells #[.bool (s == 1), .bool (s == 2), .int .u32 g, .int .i64 x] 176) = w1 at *
  clear hw1
  obtain ⟨A, hA⟩ : ∃ A, w.heap.size = A := ⟨_, rfl⟩
  have HA := Lib.hid hA
  rw [hA] at B1
  rw [hA]
  clear hA
  obtain ⟨cap, c0, c1, c2, hcap, hcm⟩ := H1.out.c0
  rw [HN.out] at c2 hcap
  have HO : Hid ((w1.alloc (.cells #[] 176)).ownsRow w1.heap.size 176 4 (.slice (some ⟨w1.heap.size, 0, none⟩) 0 0) 0 []) := World.ownsRow_lit w1 #[] 0 (Nat.le_refl _) (by decide) rfl
  have hbn : Below w1.heap.size w1 (w1.alloc (.cells #[] 176)) := (Below.refl _ w1).alloc (Nat.le_refl _) _
  have hc' := cell_keeps hbn c2
  have H2 := Lib.hid (H1.out.below hbn)
  have BN := Lib.hid hbn
  clear c0 c1 c2 hbn
  go_wp2_with (at_builtin; refine wpList_append_own _ rfl _ _ 172 rfl w1.heap.size 176 i0 _ 4 16 Tryz.underlying172 hi0 hz0 hz1 hz2 rfl (by decide) _ 0 [] rfl HO.out ⟨d, 0, none⟩ n cap (F.dcls n) rfl (dcls_len F _) ?c1 (dcls_one F _) ?c2 ?c3 ?c4 ?_)
  case c1 =>
    intro j u hj
    have hjl := (List.getElem?_eq_some_iff.1 hj).1
    rw [dcls_len] at hjl
    have e : (⟨d, 0, none⟩ : Addr).add j = ⟨d, j, none⟩ := by unfold Addr.add; split <;> simp_all
    obtain ⟨cap', cur, _, h2, _, _, _, h6⟩ := H2.out.at_
    have hp := dcls_at F n (j / 4) (by omega) (j % 4) (by omega)
    have hq := h6 (j / 4) (by rw [HN.out]; omega) (j % 4) (by omega)
    rw [show j / 4 * 4 + j % 4 = j by omega] at hp hq
    rw [e, h2.cell, hq, ← hp, hj]
  case c2 => unfold maxLen; omega
  case c3 => omega
  case c4 => simp
  intro v' w2 hown hgrow _
  have hown' : w2.ownsRow w1.heap.size 176 4 v' n (F.dcls n) := by simpa using hown
  have hB : Below w1.heap.size w1 w2 := BN.out.grown hgrow (by simp) (fun k hk => (HO.out.lt k hk).1)
  rcases hown'.2 with ⟨rfl, h0⟩ | ⟨g', cap2, cur, rfl, g1, g2, g3, g4, g5, g6⟩
  · omega
  have g7 : ∀ j, j < n → ∀ q, q < 4 → cur[j * 4 + q]? = (dcl (F.t.s j) (F.t.g j) (F.bx j))[q]? := fun j hj q hq => by
    have := dcls_at F n j hj q hq
    rw [← g6, List.getElem?_take_of_lt (by omega), Array.getElem?_toList] at this
    exact this
  have hg2 : Bk w2 g' 176 cur := g2
  obtain ⟨v0, hbc⟩ : ∃ v0, Bk w2 c 174 #[.bool true, .int .i64 F.room, v0] := by obtain ⟨_, _, h1, _⟩ := (H1.out.below hB).at_; exact ⟨_, h1⟩
  have hS := S1.out
  have hA2 := HA.out
  have hcl := HCW.out.1
  have FI2 := Lib.hid (FI.out w2 g' cap2 v0 cur (K1.out.trans (hB.mono (by omega))) (by omega) hbc hg2 g3 g4 g5 g7)
  have e0 : w2.cell? ⟨g', i * 4, none⟩ = some (.bool (F.t.s i == 1)) := (hg2.cell _).trans (g7 i (by omega) 0 (by omega))
  have e1 : w2.cell? ⟨g', i * 4 + 1, none⟩ = some (.bool (F.t.s i == 2)) := (hg2.cell _).trans (g7 i (by omega) 1 (by omega))
  have e2 : w2.cell? ⟨g', i * 4 + 2, none⟩ = some (.int .u32 (F.t.g i)) := (hg2.cell _).trans (g7 i (by omega) 2 (by omega))
  have e3 : w2.cell? ⟨g', i * 4 + 3, none⟩ = some (.int .i64 (F.bx i)) := (hg2.cell _).trans (g7 i (by omega) 3 (by omega))
  have f0 := hg2.frozen (i * 4)
  have f1 := hg2.frozen (i * 4 + 1)
  have f2 := hg2.frozen (i * 4 + 2)
  have f3 := hg2.frozen (i * 4 + 3)
  have fc := hbc.frozen 2
  have k2 : w2.cell? ⟨c, 2, none⟩ = some v0 := hbc.cell 2
  have hBA := B1.out.below hB
  have a0 : w2.cell? ⟨A, 0, none⟩ = some (.bool (s == 1)) := hBA.cell 0
  have a1 : w2.cell? ⟨A, 1, none⟩ = some (.bool (s == 2)) := hBA.cell 1
  have a2 : w2.cell? ⟨A, 2, none⟩ = some (.int .u32 g) := hBA.cell 2
  have a3 : w2.cell? ⟨A, 3, none⟩ = some (.int .i64 x) := hBA.cell 3
  have hgl := hg2.lt
  have hcw := hbc.lt
  have hne : c ≠ g' := by omega
  have hne2 : g' ≠ c := fun e => hne e.symm
  have hcap2 : cap2 ≤ 9223372036854775807 := by unfold maxLen at g4; omega
  clear hown hown' hgrow hB g1 g2 g4 g5 g6 g7 hg2 hbc hBA hS hA2 hcl hc' hne hcap hcm
  go_wp2
  go_end0
  exact ⟨rfl, FI2.out⟩
end Go.Proofs.YtpinmiplefidpaaGreatDoor.BF

namespace Go.Proofs.YtpinmiplefidpaaGreatDoor.BF
open Go.RowKit

/-- What a call that may write leaves of the document's pool. -/
def DSetQ (c d : Nat) (G : Po) (w w' : World) : Prop := ∃ d', (d' = d ∨ w.heap.size ≤ d') ∧ DW w' c d' G ∧ Kept (· = c) w w'
theorem DSetP.q {c d : Nat} {G : Po} {w w1 w' : World} (hb : Below w.heap.size w w1) (h : DSetP c G w1 w') : DSetQ c d G w w' := by
  obtain ⟨d', h1, h2, h3⟩ := h
  exact ⟨d', .inr (Nat.le_trans hb.size h1), h2, (Kept.of_below hb).trans h3⟩
theorem DW.quietQ {c d : Nat} {F : Po} {w w' : World} (h : DW w c d F) (hb : Below w.heap.size w w') : DSetQ c d F w w' := ⟨d, .inl rfl, h.below hb, Kept.of_below hb⟩
theorem gave_bx {F : Po} {i j : Nat} (h : j ≠ i) : (F.gave i).t.s j = F.t.s j ∧ (F.gave i).t.g j = F.t.g j ∧ (F.gave i).bx j = F.bx j := by
  have es : (F.gave i).t.s j = F.t.s j := by
    show (F.t.gave i).s j = _
    unfold Tb.gave
    split <;> exact put_other h
  have eg : (F.gave i).t.g j = F.t.g j := by
    show (F.t.gave i).g j = _
    unfold Tb.gave
    split
    · rfl
    · exact put_other h
  refine ⟨es, eg, ?_⟩
  unfold Po.bx
  rw [es]
  rfl
set_option maxHeartbeats 1000000 in
set_option maxRecDepth 100000 in
theorem dunpin_no (c d : Nat) (F : Po) (x y z : Int) (h0 : F.chk x y z ≠ 0) (w : World) (h : DW w c d F) : Calls Tryz.prog 75 #[.pointer (some ⟨c, 0, none⟩), .agg #[.int .i64 x, .int .i64 y, .int .u32 z]] w fun e w' => e = .returned (.int .i64 (F.chk x y z)) ∧ Below w.heap.size w w' := by
  have CK : Hid (∀ W, Below w.heap.size w W → Calls Tryz.prog 115 #[.pointer (some ⟨c, 0, none⟩), .agg #[.int .i64 x, .int .i64 y, .int .u32 z]] W fun e w' => e = .returned (.int .i64 (F.chk x y z)) ∧ Below W.heap.size W w') := fun W hW => dfind_ok c d F x y z W (h.below hW)
  have hE0 : (F.chk x y z != 0) = true := by simpa using h0
  generalize F.chk x y z = E at *
  clear h h0
  go_enter Tryz.func75, Tryz.ntmps75
  go_wp2_with (go_at_call 115; refine (CK.out _ ((Below.refl _ _).alloc (Nat.le_refl _) _)).mono ?_; rintro e w2 ⟨rfl, hb2⟩; have HB := Lib.hid (bel2 ((Below.refl _ _).alloc (Nat.le_refl _) _) hb2); clear hb2)
  go_ret
  exact ⟨rfl, HB.out⟩
set_option maxHeartbeats 2000000 in
set_option maxRecDepth 100000 in
theorem dunpin_yes (c d i : Nat) (F : Po) (w : World) (h : DW w c d F) (hi : i < F.t.n) (hs : F.t.s i = 1) : Calls Tryz.prog 75 #[.pointer (some ⟨c, 0, none⟩), .agg #[.int .i64 2, .int .i64 i, .int .u32 (F.t.g i)]] w fun e w' => e = .returned (.int .i64 0) ∧ Hid (DSetQ c d (F.gave i) w w') := by
  have hck := Po.chk_held hi hs
  have CK : Hid (∀ W, Below w.heap.size w W → Calls Tryz.prog 115 #[.pointer (some ⟨c, 0, none⟩), .agg #[.int .i64 2, .int .i64 i, .int .u32 (F.t.g i)]] W fun e w' => e = .returned (.int .i64 0) ∧ Below W.heap.size W w') := fun W hW => by
    have := dfind_ok c d F 2 i (F.t.g i) W (h.below hW)
    rw [hck] at this; exact this
  have hgm := h.ok.t.gm i
  by_cases hmax : F.t.g i = 4294967295
  · have ST : Hid (∀ W, Below w.heap.size w W → Calls Tryz.prog 116 #[.pointer (some ⟨c, 0, none⟩), .int .i64 i, .agg #[.bool false, .bool true, .int .u32 4294967295, .int .i64 0]] W fun e w' => e = .returned (.tuple #[]) ∧ Hid (DSetP c (F.gave i) W w')) := fun W hW => by
      refine dset_ok c d i 2 4294967295 0 F (F.gave i) W (h.below hW) hi (h.ok.gave i) (F.t.gave_n i) rfl (fun j hj => gave_bx hj) ?_
      have e1 : F.t.gave i = ⟨F.t.n, put F.t.s i 2, F.t.g⟩ := by unfold Tb.gave; rw [if_pos hmax]
      simp only [Po.bx, Po.gave, e1, put_same, hmax]; rfl
    rw [hmax] at CK ⊢
    clear h hi hs hck hgm hmax
    go_enter Tryz.func75, Tryz.ntmps75
    go_wp2_with (first
      | (go_at_call 115; refine (CK.out _ ((Below.refl _ _).alloc (Nat.le_refl _) _)).mono ?_; rintro e w2 ⟨rfl, hb2⟩; have HB := Lib.hid (bel2 ((Below.refl _ _).alloc (Nat.le_refl _) _) hb2); obtain ⟨q0, q1, q2, q3⟩ := box_o hb2; clear hb2)
      | (go_at_call 116; refine (ST.out _ HB.out).mono ?_; rintro e w3 ⟨rfl, hp⟩; have HP := Lib.hid (hp.out.q (d := d) HB.out); clear hp))
    go_ret
    exact ⟨rfl, HP.out⟩
  · have ST : Hid (∀ W, Below w.heap.size w W → Calls Tryz.prog 116 #[.pointer (some ⟨c, 0, none⟩), .int .i64 i, .agg #[.bool false, .bool false, .int .u32 ((F.t.g i : Int) + 1), .int .i64 0]] W fun e w' => e = .returned (.tuple #[]) ∧ Hid (DSetP c (F.gave i) W w')) := fun W hW => by
      have := dset_ok c d i 0 (F.t.g i + 1) 0 F (F.gave i) W (h.below hW) hi (h.ok.gave i) (F.t.gave_n i) rfl (fun j hj => gave_bx hj) ?_
      · rw [Int.natCast_add] at this; exact this
      · have e1 : F.t.gave i = ⟨F.t.n, put F.t.s i 0, put F.t.g i (F.t.g i + 1)⟩ := by unfold Tb.gave; rw [if_neg hmax]
        simp only [Po.bx, Po.gave, e1, put_same]; rfl
    have hm : ((F.t.g i : Int) == 4294967295) = false := by simp; omega
    have hg1 : (F.t.g i : Int) + 1 ≤ 4294967295 := by omega
    have hg0 : (0 : Int) ≤ (F.t.g i : Int) + 1 := by omega
    clear h hi hs hck hgm hmax
    generalize F.t.g i = fg at *
    go_enter Tryz.func75, Tryz.ntmps75
    go_wp2_with (first
      | (go_at_call 115; refine (CK.out _ ((Below.refl _ _).alloc (Nat.le_refl _) _)).mono ?_; rintro e w2 ⟨rfl, hb2⟩; have HB := Lib.hid (bel2 ((Below.refl _ _).alloc (Nat.le_refl _) _) hb2); obtain ⟨q0, q1, q2, q3⟩ := box_o hb2; clear hb2)
      | (go_at_call 116; refine (ST.out _ HB.out).mono ?_; rintro e w3 ⟨rfl, hp⟩; have HP := Lib.hid (hp.out.q (d := d) HB.out); clear hp))
    go_ret
    exact ⟨rfl, HP.out⟩
theorem dunpin_ok (c d : Nat) (F : Po) (x y z : Int) (w : World) (h : DW w c d F) : Calls Tryz.prog 75 #[.pointer (some ⟨c, 0, none⟩), .agg #[.int .i64 x, .int .i64 y, .int .u32 z]] w fun e w' => e = .returned (.int .i64 (F.chk x y z)) ∧ Hid (DSetQ c d (F.unpin x y z) w w') := by
  unfold Po.unpin
  by_cases h0 : F.chk x y z = 0
  · obtain ⟨rfl, i, rfl, hi, hs, rfl⟩ := Po.chk_pinned h0
    rw [if_pos h0, h0, Int.toNat_natCast]
    exact dunpin_yes c d i F w h hi hs
  · rw [if_neg h0]
    exact (dunpin_no c d F x y z h0 w h).mono fun e w' ⟨h1, h2⟩ => ⟨h1, h.quietQ h2⟩
end Go.Proofs.YtpinmiplefidpaaGreatDoor.BF

namespace Go.Proofs.YtpinmiplefidpaaGreatDoor.BF
open Go.RowKit

/-- What a slice of one's own is behind an append of one. -/
def AppO (base : Nat) (l : List Ro) (r : Ro) (v : Value) (w : World) (v' : Value) (w' : World) : Prop :=
  w'.ownsRow base 25 3 v' (l ++ [r]).length (ocls (l ++ [r])) ∧ Kept (fun g => v.ownBlock = some g) w w'
theorem wpList_app_o {w : World} {ops : Array Oper} {rest : List Oper} {o : Oper} {a : Act} {Q : Exit → Act → World → Prop} (hgd : o.guard = none) (s x : Operand)
    (ho : o.op = .call { callee := .builtin .append, args := #[s, x], argTypes := #[51, 51] }) {base n g : Nat} {p : Option Addr} {c : Nat} {l : List Ro} (r : Ro) (hs : a.eval s = .slice p n c) (hx : a.eval x = .slice (some ⟨g, 0, none⟩) 1 1)
    (hn : l.length = n) (hown : w.ownsRow base 25 3 (.slice p n c) n (ocls l)) (hg : Bk w g 25 r.cl.toArray) (hl : l.length ≤ 1000) (hb : base ≤ w.heap.size)
    (h : ∀ p' c' w', Hid (AppO base l r (.slice p n c) w (.slice p' (n + 1) c') w') → wpList Tryz.prog ops Q rest (a.put o.dst (.slice p' (n + 1) c')) w') : wpList Tryz.prog ops Q (o :: rest) a w := by
  subst hn
  obtain ⟨j0, hj, hy0, hy1, hy2⟩ := info_parts info_out
  refine wpList_append_own _ hgd s x 51 ho base 25 j0 _ 3 24 Tryz.underlying51 hj hy0 hy1 hy2 rfl (by decide) _ _ _ hs hown ⟨g, 0, none⟩ 1 1 r.cl hx rfl (fun j u hj => by
      have e : (⟨g, 0, none⟩ : Addr).add j = ⟨g, j, none⟩ := by unfold Addr.add; split <;> simp_all
      rw [e, hg.cell]
      simpa using hj) (Ro.cl_one r) (by unfold maxLen; omega) (by omega) hb fun v' w' h5 h6 _ => ?_
  have ho2 : w'.ownsRow base 25 3 v' (l ++ [r]).length (ocls (l ++ [r])) := by
    rw [ocls_snoc, List.length_append]; exact h5
  obtain ⟨p', c', rfl⟩ := own_form ho2
  have e1 : (l ++ [r]).length = l.length + 1 := by simp
  rw [e1]
  refine h p' c' w' ⟨by rw [← e1]; exact ho2, ⟨h6.os, h6.tape, h6.output, h6.size, fun k hk hs => h6.block k hk fun e => hs e.symm⟩⟩
theorem row_any {w : World} {t : TypeId} {z base n : Nat} {v : Value} {xs : List Value} (h : w.ownsRow base t z v n xs) {g : Nat} (hg : v.ownBlock = some g) : base ≤ g ∧ ∃ cs, Bk w g t cs := by
  rcases h.2 with ⟨rfl, _⟩ | ⟨g', cap, cur, rfl, h1, h2, _⟩
  · cases hg
  · obtain rfl : g' = g := by simpa [Value.ownBlock] using hg
    exact ⟨h1, _, h2⟩
theorem row_kept {S : Nat → Prop} {w w' : World} {t : TypeId} {z base n : Nat} {v : Value} {xs : List Value} (h : w.ownsRow base t z v n xs) (q : Kept S w w') (hs : ∀ g, v.ownBlock = some g → ¬ S g) : w'.ownsRow base t z v n xs :=
  own_same h fun g hg => q.block g (by obtain ⟨_, _, hb⟩ := row_any h hg; exact hb.lt) (hs g hg)

/-! ### Used -/
def Po.us (P : Po) (k : Nat) : Nat := ((List.range k).map P.bx).sum
theorem us_snoc (P : Po) (k : Nat) : P.us (k + 1) = P.us k + P.bx k := by
  unfold Po.us
  rw [List.range_succ, List.map_append, List.sum_append]; simp
theorem us_sel (P : Po) : ∀ k, ((sel P.t.s 1 k).map P.m).sum = P.us k
  | 0 => rfl
  | k + 1 => by
    rw [sel_snoc, List.map_append, List.sum_append, us_sel P k, us_snoc]
    unfold Po.bx
    split <;> simp
theorem us_all (P : Po) : P.us P.t.n = P.used := (us_sel P P.t.n).symm
theorem us_le {P : Po} (h : P.Ok) : ∀ k, P.us k ≤ k * 65536
  | 0 => Nat.le_refl _
  | k + 1 => by
    have h1 := us_le h k
    have h2 : P.bx k ≤ 65536 := by unfold Po.bx; split; exact h.m k; omega
    rw [us_snoc]; omega
set_option maxHeartbeats 2000000 in
set_option maxRecDepth 100000 in
theorem dused_eq (c d : Nat) (F : Po) (w : World) (h : DW w c d F) : Calls Tryz.prog 136 #[.pointer (some ⟨c, 0, none⟩)] w fun e w' => e = .returned (.int .i64 F.used) ∧ w = w' := by
  obtain ⟨U0, hU0⟩ : ∃ U0, F.used = U0 := ⟨_, rfl⟩
  rw [hU0]
  have HU0 := Lib.hid hU0
  clear hU0
  obtain ⟨n, hn⟩ : ∃ n, F.t.n = n := ⟨_, rfl⟩
  have hnb : n ≤ 64 := by rw [← hn]; exact h.ok.hi
  have HN := Lib.hid hn
  have HD := Lib.hid h
  have HV := Lib.hid (dvalid_eq c d F w h)
  clear h hn
  go_enter Tryz.func136, Tryz.ntmps136
  go_wp2
  go_loopw [3, 4] (fun v u wr => ∃ i : Nat, i ≤ n ∧ v = .int .i64 (F.us i) ∧ u = .int .i64 i ∧ w = wr) (fun _ u _ => n - (intOf u).toNat)
  case atStart => exact ⟨0, Nat.zero_le _, rfl, rfl, rfl⟩
  case round =>
    obtain ⟨i, hi, rfl, rfl, rfl⟩ := hrel
    obtain ⟨cap, c0, c1, c2, hc1, hc2⟩ := HD.out.c0
    rw [HN.out] at c2 hc1
    clear c0 c1
    have hus := us_le HD.out.ok i
    by_cases hlt : i < n
    · obtain ⟨i0, i1, i2, i3⟩ := HD.out.ci (i := i) (by rw [HN.out]; exact hlt)
      have hus2 := us_le HD.out.ok (i + 1)
      have hst := us_snoc F i
      rw [hst] at hus2
      have HST := Lib.hid hst
      clear i0 i1 i2 hst
      generalize F.bx i = X at *
      obtain ⟨U, hU⟩ : ∃ U, F.us i = U := ⟨_, rfl⟩
      rw [hU] at hus hus2 HST ⊢
      have hU2 : (U : Int) ≤ 4194304 := by omega
      have hX2 : (X : Int) ≤ 4259840 := by omega
      clear hus hus2 hU
      go_wp2_with (go_at_call 130; (with_reducible refine HV.out.mono ?_); rintro e w2 ⟨rfl, rfl⟩)
      go_roundw
      case rel => exact ⟨i + 1, by omega, by rw [HST.out]; go_num, by go_num, trivial⟩
      case measure => simp [intOf]; omega
    · obtain rfl : i = n := by omega
      have e : F.us i = U0 := by rw [← HU0.out, ← HN.out]; exact us_all F
      rw [e]
      clear e hus
      go_wp2_with (go_at_call 130; (with_reducible refine HV.out.mono ?_); rintro e w2 ⟨rfl, rfl⟩)
      go_ret
      exact ⟨rfl, rfl⟩

/-! ### All, Len -/
/-- What is pinned below id i. -/
def Po.upto (F : Po) (i : Nat) : List Ro := (sel F.t.s 1 i).map fun (j : Nat) => ⟨2, (j : Int), (F.t.g j : Int)⟩
theorem upto_all (F : Po) : F.upto F.t.n = F.all := by simp [Po.upto, Po.all, Tb.now, Tb.held, Tb.refs, bro, Function.comp_def]
theorem upto_yes {F : Po} {i : Nat} (h : F.t.s i = 1) : F.upto (i + 1) = F.upto i ++ [⟨2, (i : Int), (F.t.g i : Int)⟩] := by
  unfold Po.upto; rw [sel_snoc, if_pos h, List.map_append]; rfl
theorem upto_no {F : Po} {i : Nat} (h : F.t.s i ≠ 1) : F.upto (i + 1) = F.upto i := by
  unfold Po.upto; rw [sel_snoc, if_neg h, List.append_nil]
theorem upto_len (F : Po) (i : Nat) : (F.upto i).length ≤ i := by
  unfold Po.upto; rw [List.length_map]; exact sel_len _ _ _
set_option maxHeartbeats 4000000 in
set_option maxRecDepth 100000 in
theorem dall_ok (c d : Nat) (F : Po) (w : World) (h : DW w c d F) : Calls Tryz.prog 96 #[.pointer (some ⟨c, 0, none⟩)] w (NewO F.all w) := by
  obtain ⟨n, hn⟩ : ∃ n, F.t.n = n := ⟨_, rfl⟩
  have hnb : n ≤ 64 := by rw [← hn]; exact h.ok.hi
  have HN := Lib.hid hn
  have HD0 := Lib.hid h
  have O0 : Hid (w.ownsRow w.heap.size 25 3 (.slice none 0 0) (F.upto 0).length (ocls (F.upto 0))) := World.ownsRow_nil _ _ _ _
  clear h hn
  go_enter Tryz.func96, Tryz.ntmps96
  go_wp2
  go_loopw [3, 4] (fun v u wr => ∃ i q p c', i ≤ n ∧ v = .slice p q c' ∧ u = .int .i64 (i : Nat) ∧ Hid ((F.upto i).length = q) ∧ Hid (wr.ownsRow w.heap.size 25 3 (.slice p q c') (F.upto i).length (ocls (F.upto i))) ∧ Hid (Below w.heap.size w wr)) (fun _ u _ => n - (intOf u).toNat)
  case atStart => exact ⟨0, 0, none, 0, Nat.zero_le _, rfl, rfl, rfl, O0.out, Below.refl _ _⟩
  case round =>
    clear O0
    obtain ⟨i, q, p, c', hi, rfl, rfl, HQ, HO, HB⟩ := hrel
    have HD := Lib.hid (HD0.out.below HB.out)
    have HV := Lib.hid (dvalid_eq c d F wr HD.out)
    obtain ⟨cap, c0, c1, c2, hc1, hc2⟩ := HD.out.c0
    rw [HN.out] at c2 hc1
    clear c0 c1
    by_cases hlt : i < n
    · obtain ⟨i0, i1, i2, i3⟩ := HD.out.ci (i := i) (by rw [HN.out]; exact hlt)
      have hgm : F.t.g i ≤ 4294967295 := HD.out.ok.t.gm i
      clear i1 i3
      by_cases hs : F.t.s i = 1
      · have hu := upto_yes hs
        have hql : q ≤ 64 := by have := upto_len F i; have := HQ.out; omega
        have hb2 : w.heap.size ≤ wr.heap.size := HB.out.size
        rw [hs] at i0
        have j0 : wr.cell? ⟨d, i * 4, none⟩ = some (.bool true) := i0
        have HU := Lib.hid hu
        clear i0 hs hu
        generalize F.t.g i = fg at *
        have HO2 : Hid (wr.ownsRow w.heap.size 25 3 (.slice p q c') q (ocls (F.upto i))) := by have := HO.out; rwa [HQ.out] at this
        go_upto_region 6 with (go_at_call 130; (with_reducible refine HV.out.mono ?_); rintro e w2 ⟨rfl, rfl⟩)
        go_wp2_with (at_builtin; refine wpList_app_o rfl _ _ rfl ⟨2, i, fg⟩ rfl rfl HQ.out (HO2.out.alloc _) (Bk.new wr 25 #[.int .i64 2, .int .i64 i, .int .u32 fg]) (by rw [HQ.out]; omega) (by simp; omega) ?_)
        intro p' c2 w8 HA
        have HF : Hid (w8.ownsRow w.heap.size 25 3 (.slice p' (q + 1) c2) (F.upto (i + 1)).length (ocls (F.upto (i + 1))) ∧ (F.upto (i + 1)).length = q + 1 ∧ Below w.heap.size w w8) := by
          obtain ⟨h1, h2⟩ := HA.out
          rw [← show F.upto (i + 1) = F.upto i ++ [⟨2, (i : Int), (fg : Int)⟩] from HU.out] at h1
          refine ⟨h1, by rw [HU.out, List.length_append, HQ.out]; rfl, (HB.out.alloc hb2 _).trans (h2.below (by simp; omega) fun g e => (HO.out.lt g e).1)⟩
        clear HA
        go_wp2
        go_roundw
        case rel => exact ⟨i + 1, q + 1, p', c2, by omega, rfl, by go_num, HF.out.2.1, HF.out.1, HF.out.2.2⟩
        case measure => simp [intOf]; omega
      · have hu := upto_no hs
        have hb : (F.t.s i == 1) = false := by simp [hs]
        rw [hb] at i0
        have HU := Lib.hid hu
        clear hs hu hb
        go_wp2_with (go_at_call 130; (with_reducible refine HV.out.mono ?_); rintro e w2 ⟨rfl, rfl⟩)
        go_roundw
        case rel => exact ⟨i + 1, q, p, c', by omega, rfl, by go_num, by rw [HU.out]; exact HQ.out, by rw [HU.out]; exact HO.out, HB.out⟩
        case measure => simp [intOf]; omega
    · obtain rfl : i = n := by omega
      go_wp2_with (go_at_call 130; (with_reducible refine HV.out.mono ?_); rintro e w2 ⟨rfl, rfl⟩)
      go_ret
      have e : F.upto i = F.all := by rw [← HN.out]; exact upto_all F
      have hq := HQ.out
      have ho := HO.out
      rw [e] at hq ho
      subst hq
      exact ⟨p, c', rfl, ho, HB.out⟩
end Go.Proofs.YtpinmiplefidpaaGreatDoor.BF

namespace Go.Proofs.YtpinmiplefidpaaGreatDoor.BF
open Go.RowKit

theorem put3 {w : World} {g : Nat} {t : TypeId} {a b c : Value} (h : Bk w g t #[a, b, c]) (x y z : Value) :
    Bk (((w.setCell ⟨g, 0, none⟩ x).setCell ⟨g, 1, none⟩ y).setCell ⟨g, 2, none⟩ z) g t #[x, y, z] ∧ Kept (· = g) w (((w.setCell ⟨g, 0, none⟩ x).setCell ⟨g, 1, none⟩ y).setCell ⟨g, 2, none⟩ z) :=
  ⟨((h.put 0 x).put 1 y).put 2 z, (((Kept.refl _ w).put1 _ _).put1 _ _).put1 _ _⟩
theorem ob3 {w : World} {A : Nat} {x y z : Value} (h : Bk w A 25 #[x, y, z]) : w.cell? ⟨A, 0, none⟩ = some x ∧ w.cell? ⟨A, 1, none⟩ = some y ∧ w.cell? ⟨A, 2, none⟩ = some z := ⟨h.cell 0, h.cell 1, h.cell 2⟩
theorem keep_new {S : Nat → Prop} {a b c : World} (h : Kept S a b) (k : Kept (· = a.heap.size) b c) : Kept S a c :=
  (h.mono (T := fun g => S g ∨ g = a.heap.size) fun _ _ x => .inl x).trans (k.mono fun _ _ x => .inr x) |>.mono fun g hg x => by rcases x with x | x; exact x; omega
theorem dpin_ret {B : Nat} {E : Int} {W : World} {x y z : Value} {P : Ending → World → Prop} {a : Act} (hN : Bk W B 25 #[x, y, z]) (h4 : a.tmps[4]? = some (.pointer (some ⟨B, 0, none⟩))) (h5 : a.tmps[5]? = some (.int .i64 E)) (hd : a.defers = [])
    (hP : P (.returned (.tuple #[.agg #[x, y, z], .int .i64 E])) W) : bodyPost Tryz.prog Tryz.f108 P Exit.ret a W := by
  have c0 : W.cell? ⟨B, 0, none⟩ = some x := hN.cell 0
  have c1 : W.cell? ⟨B, 1, none⟩ = some y := hN.cell 1
  have c2 : W.cell? ⟨B, 2, none⟩ = some z := hN.cell 2
  have e4 : a.tmps.getD 4 undef = .pointer (some ⟨B, 0, none⟩) := by rw [Array.getD_eq_getD_getElem?, h4]; rfl
  have e5 : a.tmps.getD 5 undef = .int .i64 E := by rw [Array.getD_eq_getD_getElem?, h5]; rfl
  refine bodyPost_ret (v := .tuple #[.agg #[x, y, z], .int .i64 E]) ?_ hd hP
  rw [results_cell_tmp rfl, e4, e5]
  go_simp
theorem pinned_bx {F : Po} {i x j : Nat} (h : j ≠ i) : (F.put i x).t.s j = F.t.s j ∧ (F.put i x).t.g j = F.t.g j ∧ (F.put i x).bx j = F.bx j := by
  have es : (F.put i x).t.s j = F.t.s j := by show put F.t.s i 1 j = _; exact put_other h
  refine ⟨es, rfl, ?_⟩
  unfold Po.bx
  rw [es]
  show (if F.t.s j = 1 then put F.m i x j else 0) = _
  rw [put_other h]
def DPinP (c d : Nat) (F : Po) (x : Int) (w : World) (e : Ending) (w' : World) : Prop := e = .returned (.tuple #[.agg #[.int .i64 (F.pK x), .int .i64 (F.pI x), .int .u32 (F.pG x)], .int .i64 (F.can x)]) ∧ DSetQ c d (F.pin x) w w'
set_option maxRecDepth 100000 in
theorem dpin_arg (c d : Nat) (F : Po) (x : Int) (hx2 : x < 1 ∨ 65536 < x) (w : World) (h : DW w c d F) : Calls Tryz.prog 108 #[.pointer (some ⟨c, 0, none⟩), .int .i64 x] w (DPinP c d F x w) := by
  have hcan : F.can x = 2 := by unfold Po.can; rw [if_pos hx2]
  obtain ⟨e1, e2, e3, e4⟩ := Po.pin_ne (P := F) (x := x) (by rw [hcan]; decide)
  unfold DPinP
  rw [hcan, e1, e2, e3, e4]
  have HV := Lib.hid (dvalid_eq c d F (w.alloc (.cells #[.int .i64 0, .int .i64 0, .int .u32 0] 25)) (h.below ((Below.refl _ w).alloc (Nat.le_refl _) _)))
  have HQ : Hid (∀ W, Below w.heap.size w W → DSetQ c d F w W) := fun W hW => h.quietQ hW
  clear h hcan e1 e2 e3 e4
  rcases hx2 with hx2 | hx2
  all_goals
    go_enter Tryz.func108, Tryz.ntmps108
    go_wp2_with (go_at_call 130; refine HV.out.mono ?_; rintro e w' ⟨rfl, rfl⟩)
    refine bodyPost_ret (v := .tuple #[.agg #[.int .i64 0, .int .i64 0, .int .u32 0], .int .i64 2]) (by simp [results, Tryz.results108, go_sem]) rfl ⟨rfl, HQ.out _ ?_⟩
    exact (Below.refl _ w).alloc (Nat.le_refl _) _
/-- A box of an id's four cells. -/
structure Bx (wr w : World) (a b g x : Value) : Prop where
  bk : Bk w wr.heap.size 176 #[a, b, g, x]
  bel : Below wr.heap.size wr w
theorem Bx.new (wr : World) (x y z u : Value) : Bx wr (wr.alloc (.cells #[x, y, z, u] 176)) x y z u :=
  ⟨Bk.new wr _ _, (Below.refl _ wr).alloc (Nat.le_refl _) _⟩
set_option maxHeartbeats 4000000 in
set_option maxRecDepth 1000000 in
theorem dpin_in (c d x : Nat) (F : Po) (hx1 : 1 ≤ x) (hx2 : x ≤ 65536) (w : World) (h : DW w c d F) : Calls Tryz.prog 108 #[.pointer (some ⟨c, 0, none⟩), .int .i64 x] w (DPinP c d F x w) := by
  obtain ⟨n, hn⟩ : ∃ n, F.t.n = n := ⟨_, rfl⟩
  have hnb : n ≤ 64 := by rw [← hn]; exact h.ok.hi
  have hst := h.ok.t.st
  have hus := h.ok.used_le
  have hrm := h.ok.room
  obtain ⟨U, hU⟩ : ∃ U, F.used = U := ⟨_, rfl⟩
  obtain ⟨rm, hrm2⟩ : ∃ rm, F.room = rm := ⟨_, rfl⟩
  have hU2 : (U : Int) ≤ 4194304 := by omega
  have hx' : ¬ 65536 < (x : Int) := by omega
  have hx'' : ¬ (x : Int) < 1 := by omega
  have hx3 : (x : Int) ≤ 65536 := by omega
  have hct := h.ct
  have hdt := h.dt
  have HN := Lib.hid hn
  have HR := Lib.hid hrm2
  have FULL : Hid ((∀ j, j < n → F.t.s j = 0 → ¬ U + x ≤ rm) → ∀ W, DW W c d F → Kept (· = c) w W → DPinP c d F x w (.returned (.tuple #[.agg #[.int .i64 0, .int .i64 0, .int .u32 0], .int .i64 4])) W) := fun ha W h1 h2 => by
    have hcan : F.can x = 4 := by
      unfold Po.can
      rw [if_neg (by omega)]
      by_cases hf : (F.room : Int) < F.used + x
      · rw [if_pos hf]
      · rw [if_neg hf, free_none (T := F.t) (fun j hj e => ha j (by omega) e (by omega))]
    obtain ⟨e1, e2, e3, e4⟩ := Po.pin_ne (P := F) (x := x) (by rw [hcan]; decide)
    unfold DPinP
    rw [hcan, e1, e2, e3, e4]
    exact ⟨rfl, d, .inl rfl, h1, h2⟩
  have AT : Hid (∀ i, i < n → (∀ j, j < i → F.t.s j = 0 → ¬ U + x ≤ rm) → F.t.s i = 0 → U + x ≤ rm → ∀ W, DSetQ c d (F.put i x) w W → DPinP c d F x w (.returned (.tuple #[.agg #[.int .i64 2, .int .i64 i, .int .u32 (F.t.g i)], .int .i64 0])) W) := fun i hi ha hs hf W h1 => by
    obtain ⟨r, hr⟩ := free_head (T := F.t) (fun j hj e => ha j hj e hf) hs (by rw [hn]; exact hi)
    have hcan : F.can x = 0 := by
      unfold Po.can
      rw [if_neg (by omega), if_neg (by omega), hr]
    obtain ⟨e1, e2, e3, e4⟩ := Po.pin_zero hcan hr
    unfold DPinP
    rw [hcan, e1, e2, e3, e4, Int.toNat_natCast]
    exact ⟨rfl, h1⟩
  have SET : Hid (∀ i, i < n → F.t.s i = 0 → ∀ W, DW W c d F → Calls Tryz.prog 116 #[.pointer (some ⟨c, 0, none⟩), .int .i64 i, .agg #[.bool true, .bool false, .int .u32 (F.t.g i), .int .i64 x]] W fun e w' => e = .returned (.tuple #[]) ∧ Hid (DSetP c (F.put i x) W w')) := fun i hi hs W hW => by
    refine dset_ok c d i 1 (F.t.g i) x F (F.put i x) W hW (by omega) (hW.ok.put i hx2) rfl rfl (fun j hj => pinned_bx hj) ?_
    simp [Po.put, Tb.took, put_same, Po.bx]
  have USED : Hid (∀ W m, DW W c d F → Calls Tryz.prog 136 #[.pointer (some ⟨c, 0, none⟩)] (W.drewN m) fun e w' => e = .returned (.int .i64 U) ∧ w' = W.drewN m) := fun W m hW => by
    have := dused_eq c d F (W.drewN m) (hW.same rfl rfl)
    rw [hU] at this
    exact this.mono fun e w' h => ⟨h.1, h.2.symm⟩
  have HV := Lib.hid (dvalid_eq c d F (w.alloc (.cells #[.int .i64 0, .int .i64 0, .int .u32 0] 25)) (h.below ((Below.refl _ w).alloc (Nat.le_refl _) _)))
  have D0 : Hid (DW (w.alloc (.cells #[.int .i64 0, .int .i64 0, .int .u32 0] 25)) c d F) := h.below ((Below.refl _ w).alloc (Nat.le_refl _) _)
  have B0 : Hid (Bk (w.alloc (.cells #[.int .i64 0, .int .i64 0, .int .u32 0] 25)) w.heap.size 25 #[.int .i64 0, .int .i64 0, .int .u32 0]) := Bk.new w _ _
  have K0 : Hid (Below w.heap.size w (w.alloc (.cells #[.int .i64 0, .int .i64 0, .int .u32 0] 25))) := (Below.refl _ w).alloc (Nat.le_refl _) _
  clear h hn hus hrm hU hrm2 hx1 hx2
  go_enter Tryz.func108, Tryz.ntmps108
  go_wp2_with (go_at_call 130; refine HV.out.mono ?_; rintro e w' ⟨rfl, rfl⟩)
  generalize w.alloc (.cells #[.int .i64 0, .int .i64 0, .int .u32 0] 25) = w1 at *
  go_loopw [6] (fun u wr => ∃ i : Nat, i ≤ n ∧ u = .int .i64 i ∧ Hid (∀ j, j < i → F.t.s j = 0 → ¬ U + x ≤ rm) ∧ Hid (DW wr c d F) ∧ Hid (Bk wr w.heap.size 25 #[.int .i64 0, .int .i64 0, .int .u32 0]) ∧ Hid (Below w.heap.size w wr)) (fun u _ => n - (intOf u).toNat)
  case atStart => exact ⟨0, Nat.zero_le _, rfl, (fun j hj => absurd hj (Nat.not_lt_zero _) : ∀ j, j < 0 → F.t.s j = 0 → ¬ U + x ≤ rm), D0.out, B0.out, K0.out⟩
  case round =>
    clear D0 B0 K0 HV
    obtain ⟨i, hi, rfl, HA, HD, HB, HK⟩ := hrel
    obtain ⟨cap, c0, c1, c2, hc1, hc2⟩ := HD.out.c0
    rw [HN.out] at c2 hc1
    rw [HR.out] at c1
    by_cases hlt : i < n
    · obtain ⟨i0, i1, i2, i3⟩ := HD.out.ci (i := i) (by rw [HN.out]; exact hlt)
      have hsi := hst i
      have hs3 : F.t.s i = 0 ∨ F.t.s i = 1 ∨ F.t.s i = 2 := by omega
      clear hsi c0
      rcases hs3 with hs | hs | hs
      · rw [hs] at i0 i1
        have j0 : wr.cell? ⟨d, i * 4, none⟩ = some (.bool false) := i0
        have j1 : wr.cell? ⟨d, i * 4 + 1, none⟩ = some (.bool false) := i1
        have HSE := Lib.hid (SET.out i hlt hs)
        have hgm := HD.out.ok.t.gm i
        by_cases hfit : U + x ≤ rm
        · have AI := Lib.hid (AT.out i hlt HA.out hs hfit)
          have hf2 : (U : Int) + x ≤ rm := by omega
          clear i0 i1 hs hfit
          generalize F.t.g i = fg at *
          generalize F.bx i = fx at *
          go_upto_region 9 with fail
          have hbx := Bx.new wr (.bool false) (.bool false) (.int .u32 fg) (.int .i64 fx)
          have c15 := cell_keeps hbx.bel c1
          have c25 := cell_keeps hbx.bel c2
          generalize wr.alloc (.cells #[.bool false, .bool false, .int .u32 fg, .int .i64 fx] 176) = w5 at *
          have HBX := Lib.hid hbx
          have hbl := hbx.bk.lt
          have b0 : w5.cell? ⟨wr.heap.size, 0, none⟩ = some (.bool false) := hbx.bk.cell 0
          have b1 : w5.cell? ⟨wr.heap.size, 1, none⟩ = some (.bool false) := hbx.bk.cell 1
          have b2 : w5.cell? ⟨wr.heap.size, 2, none⟩ = some (.int .u32 fg) := hbx.bk.cell 2
          have HU5 := Lib.hid (fun m => USED.out w5 m (HD.out.below HBX.out.bel))
          clear hbx j0 j1 i2 i3 c1 c2
          go_quiet ((go_at_call 136; exact Calls.quiet_of_same (HU5.out _)))
          have HD6 := Lib.hid (HD.out.below (bel_drewN HBX.out.bel nq))
          have B6 := Lib.hid (HB.out.below (bel_drewN HBX.out.bel nq))
          have X6 : Hid (Bk (w5.drewN nq) wr.heap.size 176 #[.bool false, .bool false, .int .u32 fg, .int .i64 fx]) := HBX.out.bk.same rfl
          have K6 := Lib.hid (bel2 HK.out (bel_drewN HBX.out.bel nq))
          have hsz := HK.out.size
          have S6 : Hid (c < wr.heap.size ∧ w.heap.size ≤ (w5.drewN nq).heap.size) := ⟨HD.out.ct, K6.out.size⟩
          go_upto_region 10 with fail
          generalize w5.drewN nq = w6 at *
          clear b0 b1 b2 c15 c25
          have b2 : w6.cell? ⟨wr.heap.size, 2, none⟩ = some (.int .u32 fg) := X6.out.cell 2
          go_wp2_with (go_at_call 116; refine (HSE.out w6 HD6.out).mono ?_; rintro e w7 ⟨rfl, hp⟩; obtain ⟨d', p1, p2, p3⟩ := hp.out; have D7 := Lib.hid p2; have P7 := Lib.hid p3; have L7 := Lib.hid p1; have hcA := S6.out.1; have b2 : w7.cell? ⟨wr.heap.size, 2, none⟩ = some (.int .u32 fg) := (X6.out.kept p3 (by omega)).cell 2; have B7 := Lib.hid (B6.out.kept p3 (by omega)); obtain ⟨k0, k1, k2⟩ := ob3 B7.out; have kf0 := B7.out.frozen 0; have kf1 := B7.out.frozen 1; have kf2 := B7.out.frozen 2; clear hp p1 p2 p3)
          obtain ⟨hN, hK7⟩ := put3 B7.out (.int .i64 2) (.int .i64 i) (.int .u32 fg)
          have hs6 := S6.out.2
          have hl7 := L7.out
          have hB6l := B6.out.lt
          refine dpin_ret hN rfl rfl rfl (AI.out _ ⟨d', .inr (by omega), D7.out.kept hK7 (by omega) (by omega), ?_⟩)
          exact keep_new ((Kept.of_below K6.out).trans P7.out) hK7
        · have HS : Hid (∀ j, j < i + 1 → F.t.s j = 0 → ¬ U + x ≤ rm) := fun j hj hj0 => by
            by_cases e : j = i
            · exact hfit
            · exact HA.out j (by omega) hj0
          have hf2 : ¬ (U : Int) + x ≤ rm := by omega
          clear i0 i1 hs hfit HSE
          generalize F.t.g i = fg at *
          generalize F.bx i = fx at *
          go_upto_region 9 with fail
          have hbx := Bx.new wr (.bool false) (.bool false) (.int .u32 fg) (.int .i64 fx)
          have c15 := cell_keeps hbx.bel c1
          generalize wr.alloc (.cells #[.bool false, .bool false, .int .u32 fg, .int .i64 fx] 176) = w5 at *
          have HBX := Lib.hid hbx
          have b0 : w5.cell? ⟨wr.heap.size, 0, none⟩ = some (.bool false) := hbx.bk.cell 0
          have b1 : w5.cell? ⟨wr.heap.size, 1, none⟩ = some (.bool false) := hbx.bk.cell 1
          have HU5 := Lib.hid (fun m => USED.out w5 m (HD.out.below HBX.out.bel))
          clear hbx j0 j1 i2 i3 c1 c2
          go_quiet ((go_at_call 136; exact Calls.quiet_of_same (HU5.out _)))
          go_wp2_with fail
          go_roundw
          case rel => exact ⟨i + 1, by omega, by go_num, HS.out, HD.out.below (bel_drewN HBX.out.bel _), HB.out.below (bel_drewN HBX.out.bel _), bel2 HK.out (bel_drewN HBX.out.bel _)⟩
          case measure => simp [intOf]; omega
      · rw [hs] at i0 i1
        have j0 : wr.cell? ⟨d, i * 4, none⟩ = some (.bool true) := i0
        have j1 : wr.cell? ⟨d, i * 4 + 1, none⟩ = some (.bool false) := i1
        have HS : Hid (∀ j, j < i + 1 → F.t.s j = 0 → ¬ U + x ≤ rm) := fun j hj hj0 => by
          by_cases e : j = i
          · subst e; omega
          · exact HA.out j (by omega) hj0
        clear i0 i1 hs
        generalize F.t.g i = fg at *
        generalize F.bx i = fx at *
        go_upto_region 9 with fail
        have hbx := Bx.new wr (.bool true) (.bool false) (.int .u32 fg) (.int .i64 fx)
        generalize wr.alloc (.cells #[.bool true, .bool false, .int .u32 fg, .int .i64 fx] 176) = w5 at *
        have HBX := Lib.hid hbx
        have b0 : w5.cell? ⟨wr.heap.size, 0, none⟩ = some (.bool true) := hbx.bk.cell 0
        clear hbx j0 j1 i2 i3
        go_quiet (fail)
        go_wp2_with fail
        go_roundw
        case rel => exact ⟨i + 1, by omega, by go_num, HS.out, HD.out.below (bel_drewN HBX.out.bel _), HB.out.below (bel_drewN HBX.out.bel _), bel2 HK.out (bel_drewN HBX.out.bel _)⟩
        case measure => simp [intOf]; omega
      · rw [hs] at i0 i1
        have j0 : wr.cell? ⟨d, i * 4, none⟩ = some (.bool false) := i0
        have j1 : wr.cell? ⟨d, i * 4 + 1, none⟩ = some (.bool true) := i1
        have HS : Hid (∀ j, j < i + 1 → F.t.s j = 0 → ¬ U + x ≤ rm) := fun j hj hj0 => by
          by_cases e : j = i
          · subst e; omega
          · exact HA.out j (by omega) hj0
        clear i0 i1 hs
        generalize F.t.g i = fg at *
        generalize F.bx i = fx at *
        go_upto_region 9 with fail
        have hbx := Bx.new wr (.bool false) (.bool true) (.int .u32 fg) (.int .i64 fx)
        generalize wr.alloc (.cells #[.bool false, .bool true, .int .u32 fg, .int .i64 fx] 176) = w5 at *
        have HBX := Lib.hid hbx
        have b0 : w5.cell? ⟨wr.heap.size, 0, none⟩ = some (.bool false) := hbx.bk.cell 0
        have b1 : w5.cell? ⟨wr.heap.size, 1, none⟩ = some (.bool true) := hbx.bk.cell 1
        clear hbx j0 j1 i2 i3
        go_quiet (fail)
        go_wp2_with fail
        go_roundw
        case rel => exact ⟨i + 1, by omega, by go_num, HS.out, HD.out.below (bel_drewN HBX.out.bel _), HB.out.below (bel_drewN HBX.out.bel _), bel2 HK.out (bel_drewN HBX.out.bel _)⟩
        case measure => simp [intOf]; omega
    · obtain rfl : i = n := by omega
      have FU := Lib.hid (FULL.out HA.out)
      obtain ⟨k0, k1, k2⟩ := ob3 HB.out
      have kf0 := HB.out.frozen 0
      have kf1 := HB.out.frozen 1
      have kf2 := HB.out.frozen 2
      go_wp2_with fail
      obtain ⟨hN, hK6⟩ := put3 HB.out (.int .i64 0) (.int .i64 0) (.int .u32 0)
      refine dpin_ret hN rfl rfl rfl (FU.out _ (HD.out.kept hK6 (fun e => by omega) (fun e => by omega)) ?_)
      have h1 : Kept (· = c) w wr := Kept.of_below HK.out
      exact keep_new h1 hK6
end Go.Proofs.YtpinmiplefidpaaGreatDoor.BF

namespace Go.Proofs.YtpinmiplefidpaaGreatDoor.BF
open Go.RowKit

/-- A new pool of the document's. -/
def DNew (F : Po) (w : World) (c : Nat) (w' : World) : Prop := ∃ d, DW w' c d F ∧ w.heap.size ≤ c ∧ w.heap.size ≤ d ∧ Below w.heap.size w w'
/-- A row that the call owns, and the struct that names it, are the document's pool. -/
theorem dw_of_own {w : World} {base c n : Nat} {v : Value} {F : Po} (ho : F.Ok) (hn : F.t.n = n) (hc : Bk w c 174 #[.bool true, .int .i64 F.room, v]) (h : w.ownsRow base 176 4 v n (F.dcls n)) : ∃ d, base ≤ d ∧ DW w c d F := by
  have hlo := ho.t.lo
  rcases h.2 with ⟨rfl, h0⟩ | ⟨g, cap, cur, rfl, h1, h2, h3, h4, h5, h6⟩
  · omega
  · refine ⟨g, h1, ho, cap, cur, by rw [hn]; exact hc, h2, h5, by omega, h4, fun i hi q hq => ?_⟩
    rw [hn] at hi
    have := dcls_at F n i hi q hq
    rw [← h6, List.getElem?_take_of_lt (by omega), Array.getElem?_toList] at this
    exact this
set_option maxRecDepth 100000 in
theorem dnew_bad (n r g : Int) (w : World) (hn : I64 n) (hr : I64 r) (hg : 0 ≤ g ∧ g ≤ 4294967295) (h : PBad n r g) :
    Calls Tryz.prog 58 #[.int .i64 n, .int .i64 r, .int .u32 g] w fun e w' => e = .returned (.tuple #[.pointer none, .int .i64 2]) ∧ w = w' := by
  obtain ⟨n0, n1⟩ := hn
  obtain ⟨r0, r1⟩ := hr
  obtain ⟨g0, g1⟩ := hg
  by_cases c : n < 1
  · go_enter Tryz.func58, Tryz.ntmps58
    go_wp2
    go_ret2
    exact ⟨rfl, rfl⟩
  by_cases c1 : 64 < n
  · go_enter Tryz.func58, Tryz.ntmps58
    go_wp2
    go_ret2
    exact ⟨rfl, rfl⟩
  by_cases c2 : r < 1
  · go_enter Tryz.func58, Tryz.ntmps58
    go_wp2
    go_ret2
    exact ⟨rfl, rfl⟩
  by_cases c3 : 16777216 < r
  · go_enter Tryz.func58, Tryz.ntmps58
    go_wp2
    go_ret2
    exact ⟨rfl, rfl⟩
  obtain rfl : g = 0 := by unfold PBad at h; omega
  go_enter Tryz.func58, Tryz.ntmps58
  go_wp2
  go_ret2
  exact ⟨rfl, rfl⟩
structure DNSt (w0 w : World) (v : Value) (F : Po) (k : Nat) : Prop where
  bk : Bk w w0.heap.size 174 #[.bool true, .int .i64 F.room, v]
  o : w.ownsRow (w0.heap.size + 1) 176 4 v k (F.dcls k)
  bel : Below w0.heap.size w0 w
theorem own_id_at {w w' : World} {base n c : Nat} {v : Value} {xs : List Value} (h : w.ownsRow base 176 4 v n xs) (k : Kept (· = c) w w') (hc : c < base) : w'.ownsRow base 176 4 v n xs :=
  own_same h fun g hg => k.block g (h.lt g hg).2 (by have := (h.lt g hg).1; omega)
set_option maxRecDepth 100000 in
set_option maxHeartbeats 2000000 in
theorem dnew_ok (n r first : Nat) (w : World) (h1 : 1 ≤ n) (h2 : n ≤ 64) (h3 : 1 ≤ first) (h4 : first ≤ 4294967295) (h5 : 1 ≤ r) (h6 : r ≤ 16777216) : Calls Tryz.prog 58 #[.int .i64 n, .int .i64 r, .int .u32 first] w fun e w' => ∃ c, e = .returned (.tuple #[.pointer (some ⟨c, 0, none⟩), .int .i64 0]) ∧ Hid (DNew (pfresh n r first) w c w') := by
  obtain ⟨i0, hi, hz0, hz1, hz2⟩ := info_parts info_id
  have ST : Hid (∃ v, DNSt w (w.alloc (.cells #[.bool true, .int .i64 r, .slice none 0 0] 174)) v (pfresh n r first) 0) := ⟨.slice none 0 0, Bk.new w _ _, World.ownsRow_nil _ _ _ _, (Below.refl _ w).alloc (Nat.le_refl _) _⟩
  have hn1 : ¬ (n : Int) < 1 := by omega
  have hn2 : ¬ 64 < (n : Int) := by omega
  have hr1 : ¬ (r : Int) < 1 := by omega
  have hr2 : ¬ 16777216 < (r : Int) := by omega
  have hf1 : ¬ (first : Int) < 1 := by omega
  go_enter Tryz.func58, Tryz.ntmps58
  go_wp2
  generalize w.alloc (.cells #[.bool true, .int .i64 r, .slice none 0 0] 174) = w1 at *
  go_loopw [9] (fun i wr => ∃ k : Nat, k ≤ n ∧ i = .int .i64 k ∧ Hid (∃ v, DNSt w wr v (pfresh n r first) k)) (fun i _ => n - (intOf i).toNat)
  case atStart => exact ⟨0, Nat.zero_le _, rfl, ST.out⟩
  case round =>
    clear ST
    obtain ⟨k, hk, rfl, HS⟩ := hrel
    obtain ⟨v, hv⟩ := HS.out
    obtain ⟨p, c', rfl⟩ := own_id_form hv.o
    have HV := Lib.hid hv
    have hc : wr.cell? ⟨w.heap.size, 2, none⟩ = some (.slice p k c') := hv.bk.cell 2
    have hlt0 := hv.bk.lt
    clear hv HS
    by_cases hlt : k < n
    · have hgk : (pfresh n r first).t.g k = first := if_pos hlt
      have HG := Lib.hid hgk
      clear hgk
      go_wp2_with (at_builtin; refine wpList_append_own _ rfl _ _ 172 rfl (w.heap.size + 1) 176 i0 _ 4 16 Tryz.underlying172 hi hz0 hz1 hz2 rfl (by decide) _ _ _ rfl (HV.out.o.alloc _) ⟨wr.heap.size, 0, none⟩ 1 1 (dcl 0 first 0) rfl rfl ?c1 (dcl_one _ _ _) ?c2 ?c3 ?c4 ?_)
      case c1 =>
        intro j u hj
        have e : (⟨wr.heap.size, 0, none⟩ : Addr).add j = ⟨wr.heap.size, j, none⟩ := by unfold Addr.add; split <;> simp_all
        rw [e, (Bk.new wr _ _).cell]
        show (dcl 0 first 0).toArray[j]? = some u
        rw [List.getElem?_toArray]
        exact hj
      case c2 => unfold maxLen; omega
      case c3 => omega
      case c4 => simp; omega
      intro v' w2 hown' hgrow _
      obtain ⟨p', c2, rfl⟩ := own_id_form hown'
      have hge : ∀ j, (Value.slice p k c').ownBlock = some j → w.heap.size + 1 ≤ j := fun j ej => (HV.out.o.lt j ej).1
      have hb2 : Bk w2 w.heap.size 174 #[.bool true, .int .i64 r, .slice p k c'] := by
        have e : w2.heap[w.heap.size]? = wr.heap[w.heap.size]? := by
          rw [hgrow.block w.heap.size (by simp; omega) (fun e => by have := hge _ e.symm; omega)]
          exact Below.heap_alloc _ _ _ hlt0
        exact HV.out.bk.same e
      have hbel2 : Below w.heap.size w w2 := (HV.out.bel.alloc HV.out.bel.size _).grown hgrow (by have := HV.out.bel.size; simp; omega) (fun j ej => by have := hge j ej; omega)
      have hc2 : w2.cell? ⟨w.heap.size, 2, none⟩ = some (.slice p k c') := hb2.cell 2
      have hf2 := hb2.frozen 2
      have HS2 : Hid (DNSt w (w2.setCell ⟨w.heap.size, 2, none⟩ (.slice p' (k + 1) c2)) (.slice p' (k + 1) c2) (pfresh n r first) (k + 1)) := by
        refine ⟨hb2.put 2 _, ?_, hbel2.setCell (p := ⟨w.heap.size, 2, none⟩) (Nat.le_refl _) _⟩
        have hp : (pfresh n r first).dcls (k + 1) = (pfresh n r first).dcls k ++ dcl 0 first 0 := by
          rw [dcls_snoc, HG.out]; rfl
        rw [hp]
        exact own_id_at hown' ((Kept.refl (· = w.heap.size) w2).put1 2 _) (Nat.lt_succ_self _)
      clear hown' hgrow hb2 hbel2 hge hc
      go_wp2
      go_roundw
      case rel => exact ⟨k + 1, by omega, by go_num, _, HS2.out⟩
      case measure => simp [intOf]; omega
    · obtain rfl : k = n := by omega
      have HR : Hid (DNew (pfresh k r first) w w.heap.size wr) := by
        obtain ⟨d, hd, hR⟩ := dw_of_own (pfresh_ok h1 h2 h3 h4 h6) rfl HV.out.bk HV.out.o
        exact ⟨d, hR, Nat.le_refl _, by omega, HV.out.bel⟩
      clear hc
      go_wp2
      go_ret2
      exact ⟨_, rfl, HR⟩
end Go.Proofs.YtpinmiplefidpaaGreatDoor.BF

namespace Go.Proofs.YtpinmiplefidpaaGreatDoor.BF
open Go.RowKit

/-- The document's ids behind an empty slice of the call's own. -/
theorem app_b {W : World} {base c d cap : Nat} {v : Value} {F : Po} (ho : W.ownsRow base 176 4 v 0 []) (h : DW W c d F) (hb : base ≤ W.heap.size) :
    ∃ v' W', (Builtin.append_ #[172, 172] 172 #[v, .slice (some ⟨d, 0, none⟩) F.t.n cap]).run Tryz.prog W = .ok v' W' ∧ W'.ownsRow base 176 4 v' F.t.n (F.dcls F.t.n) ∧ Kept (fun g => v.ownBlock = some g) W W' := by
  obtain ⟨i0, hi, hz0, hz1, hz2⟩ := info_parts info_id
  have hn := h.ok.hi
  obtain ⟨v', W', hrun, hown, hgr, _, _⟩ := run_append_own_at (P := Tryz.prog) W base 172 172 176 i0 _ 4 16 Tryz.underlying172 hi hz0 hz1 hz2 rfl (by decide) v 0 [] ho ⟨d, 0, none⟩ F.t.n cap (F.dcls F.t.n) (dcls_len F _) (fun j u hj => by
      have hjl := (List.getElem?_eq_some_iff.1 hj).1
      rw [dcls_len] at hjl
      have e : (⟨d, 0, none⟩ : Addr).add j = ⟨d, j, none⟩ := by unfold Addr.add; split <;> simp_all
      obtain ⟨cap', cur, _, h2, _, _, _, h6⟩ := h.at_
      have hp := dcls_at F F.t.n (j / 4) (by omega) (j % 4) (by omega)
      have hq := h6 (j / 4) (by omega) (j % 4) (by omega)
      rw [show j / 4 * 4 + j % 4 = j by omega] at hp hq
      rw [e, Bk.cell h2, hq, ← hp, hj]) (dcls_one F _) (by unfold maxLen; omega) (by omega) hb
  refine ⟨v', W', hrun, ?_, ⟨hgr.os, hgr.tape, hgr.output, hgr.size, fun k hk hs => hgr.block k hk fun e => hs e.symm⟩⟩
  rwa [Nat.zero_add, List.nil_append] at hown
/-- What a slot holds once its operation has come up. -/
def SpC (c d n cap rm : Nat) (k : Nat) (x : Value) : Prop :=
  match k with | 0 => x = .pointer (some ⟨c, 0, none⟩) | 1 => x = .pointer (some ⟨c, 0, none⟩) | 2 => x = .pointer (some ⟨c, 1, none⟩) | 3 => x = .int .i64 rm | 5 => x = .pointer (some ⟨c, 0, none⟩) | 6 => x = .pointer (some ⟨c, 0, none⟩) | 7 => x = .pointer (some ⟨c, 2, none⟩) | 8 => x = .slice (some ⟨d, 0, none⟩) n cap | _ => True
structure JC (T : Array Value) (w : World) (c d cap : Nat) (F : Po) (f : Nat → Bool) (tm : Array Value) (W : World) : Prop where
  sz : tm.size = T.size
  old : ∀ q, q < 6 → tm[q]? = T[q]?
  val : ∀ k, k < 9 → f k = true → ∃ x, tm[6 + k]? = some x ∧ SpC c d F.t.n cap F.room k x
  bel : Below w.heap.size w W
  r4 : f 4 = true → f 9 = false → ∃ x, tm[10]? = some x ∧ W.ownsRow w.heap.size 176 4 x 0 []
  r9 : f 9 = true → f 10 = false → ∃ x, tm[15]? = some x ∧ W.ownsRow w.heap.size 176 4 x F.t.n (F.dcls F.t.n)
  r10 : f 10 = true → f 11 = false → ∃ x, tm[16]? = some (.agg #[.bool true, .int .i64 F.room, x]) ∧ W.ownsRow w.heap.size 176 4 x F.t.n (F.dcls F.t.n)
  r11 : f 11 = true → ∃ b x, tm[17]? = some (.pointer (some ⟨b, 0, none⟩)) ∧ w.heap.size ≤ b ∧ Bk W b 174 #[.bool true, .int .i64 F.room, x] ∧ W.ownsRow w.heap.size 176 4 x F.t.n (F.dcls F.t.n)
section
variable {T tm : Array Value} {w W W' : World} {v : Value} {c d cap : Nat} {F : Po} {f : Nat → Bool}
theorem JC.vals (h : JC T w c d cap F f tm W) (hT : T.size = 18) {i : Nat} (hi : i < 12) (hs : SpC c d F.t.n cap F.room i v) : ∀ k, k < 9 → more f i k = true → ∃ x, (tm.setIfInBounds (6 + i) v)[6 + k]? = some x ∧ SpC c d F.t.n cap F.room k x := fun k hk hf => by
  rw [Array.getElem?_setIfInBounds]
  by_cases e : k = i
  · subst e
    rw [if_pos rfl, if_pos (by rw [h.sz]; omega)]
    exact ⟨v, rfl, hs⟩
  · rw [if_neg (by omega)]
    refine h.val k hk ?_
    simpa [more, e] using hf
theorem JC.same (h : JC T w c d cap F f tm W) (hT : T.size = 18) {i : Nat} (hi : i < 9) (hs : SpC c d F.t.n cap F.room i v) (h4 : i ≠ 4) : JC T w c d cap F (more f i) (tm.setIfInBounds (6 + i) v) W := by
  refine ⟨by simpa using h.sz, fun q hq => ?_, h.vals hT (by omega) hs, h.bel, fun g1 g2 => ?_, fun g1 g2 => ?_, fun g1 g2 => ?_, fun g1 => ?_⟩
  · rw [Array.getElem?_setIfInBounds, if_neg (by omega)]; exact h.old q hq
  · obtain ⟨x, h1, h2⟩ := h.r4 (by simpa [more, h4.symm] using g1) (by simpa [more, show (9 : Nat) ≠ i by omega] using g2)
    exact ⟨x, by rw [Array.getElem?_setIfInBounds, if_neg (by omega)]; exact h1, h2⟩
  · obtain ⟨x, h1, h2⟩ := h.r9 (by simpa [more, show (9 : Nat) ≠ i by omega] using g1) (by simpa [more, show (10 : Nat) ≠ i by omega] using g2)
    exact ⟨x, by rw [Array.getElem?_setIfInBounds, if_neg (by omega)]; exact h1, h2⟩
  · obtain ⟨x, h1, h2⟩ := h.r10 (by simpa [more, show (10 : Nat) ≠ i by omega] using g1) (by simpa [more, show (11 : Nat) ≠ i by omega] using g2)
    exact ⟨x, by rw [Array.getElem?_setIfInBounds, if_neg (by omega)]; exact h1, h2⟩
  · obtain ⟨b, x, h1, h2⟩ := h.r11 (by simpa [more, show (11 : Nat) ≠ i by omega] using g1)
    exact ⟨b, x, by rw [Array.getElem?_setIfInBounds, if_neg (by omega)]; exact h1, h2⟩
theorem JC.get (h : JC T w c d cap F f tm W) {k : Nat} (hk : k < 9) (hf : f k = true) : ∃ x, tm[6 + k]? = some x ∧ SpC c d F.t.n cap F.room k x := h.val k hk hf
end
set_option maxHeartbeats 4000000 in
set_option maxRecDepth 100000 in
theorem copy_region {id : Nat} {Q : Exit → Act → World → Prop} {T : Array Value} {w : World} {c d : Nat} {F : Po} (hT : T.size = 18) (h0 : T[0]? = some (.pointer (some ⟨c, 0, none⟩))) (h : DW w c d F)
    (hQ : ∀ (tm : Array Value) (b : Nat) (W : World), DNew F w b W → tm[2]? = some (.pointer (some ⟨b, 0, none⟩)) → Q .normal ⟨tm, []⟩ W) :
    (Code.region id #[{ dst := some 6, op := Op.move (Operand.tmp 0), type := 109, pos := "ref.go:128", after := #[], guard := none }, { dst := some 7, op := Op.nilCheck (Operand.tmp 6), type := 0, pos := "ref.go:128", after := #[{ on := 0, ground := Ground.data }], guard := none }, { dst := some 8, op := Op.fieldAddr 174 (Operand.tmp 7) 1, type := 0, pos := "ref.go:128", after := #[{ on := 1, ground := Ground.data }], guard := none }, { dst := some 9, op := Op.load 3 (Operand.tmp 8), type := 3, pos := "ref.go:128", after := #[{ on := 2, ground := Ground.data }], guard := none }, { dst := some 10, op := Op.buildSlice 172 0 #[], type := 172, pos := "ref.go:128", after := #[], guard := none }, { dst := some 11, op := Op.move (Operand.tmp 0), type := 109, pos := "ref.go:128", after := #[], guard := none }, { dst := some 12, op := Op.nilCheck (Operand.tmp 11), type := 0, pos := "ref.go:128", after := #[{ on := 5, ground := Ground.data }], guard := none }, { dst := some 13, op := Op.fieldAddr 174 (Operand.tmp 12) 2, type := 0, pos := "ref.go:128", after := #[{ on := 6, ground := Ground.data }], guard := none }, { dst := some 14, op := Op.load 172 (Operand.tmp 13), type := 172, pos := "ref.go:128", after := #[{ on := 7, ground := Ground.data }], guard := none }, { dst := some 15, op := Op.call { callee := Callee.builtin Builtin.append, args := #[Operand.tmp 10, Operand.tmp 14], argTypes := #[172, 172] }, type := 172, pos := "ref.go:128", after := #[{ on := 4, ground := Ground.data }, { on := 8, ground := Ground.data }], guard := none }, { dst := some 16, op := Op.build 174 #[(0, Operand.const (Value.bool true)), (1, Operand.tmp 9), (2, Operand.tmp 15)], type := 174, pos := "ref.go:128", after := #[{ on := 3, ground := Ground.data }, { on := 9, ground := Ground.data }], guard := none }, { dst := some 17, op := Op.box 174 (Operand.tmp 16), type := 109, pos := "ref.go:128", after := #[{ on := 10, ground := Ground.data }], guard := none }, { dst := some 2, op := Op.assign (Operand.tmp 17), type := 109, pos := "ref.go:128", after := #[{ on := 11, ground := Ground.data }, { on := 9, ground := Ground.chain }, { on := 0, ground := Ground.phase }, { on := 1, ground := Ground.phase }, { on := 2, ground := Ground.phase }, { on := 3, ground := Ground.phase }, { on := 4, ground := Ground.phase }, { on := 5, ground := Ground.phase }, { on := 6, ground := Ground.phase }, { on := 7, ground := Ground.phase }, { on := 8, ground := Ground.phase }, { on := 9, ground := Ground.phase }, { on := 10, ground := Ground.phase }, { on := 11, ground := Ground.phase }], guard := none }] true).wp Tryz.prog Q ⟨T, []⟩ w := by
  obtain ⟨cap, c0, c1, c2, hc1, hc2⟩ := h.c0
  have hn64 := h.ok.hi
  refine region_last 12 (fun f a W => ∃ tm, a = ⟨tm, []⟩ ∧ JC T w c d cap F f tm W) (by kernel_rfl) rfl ?_ ?_ ?_ ?_ ?_
  · intro i o ho
    rcases i with _ | _ | _ | _ | _ | _ | _ | _ | _ | _ | _ | _ | _ | i
    all_goals simp at ho
    all_goals subst ho
    all_goals simp [Region.binds]
  · intro f hcl hp i hi
    have h1 := hp _ rfl
    simp [Region.binds] at h1
    rcases i with _ | _ | _ | _ | _ | _ | _ | _ | _ | _ | _ | _ | i
    all_goals try simp only [Nat.zero_add, Nat.reduceAdd] at hi ⊢
    all_goals first | omega | simp [h1]
  · exact ⟨T, rfl, rfl, fun _ _ => rfl, (fun k _ h => by cases h), bel_drew (Below.refl _ _), (fun h => by cases h), (fun h => by cases h), (fun h => by cases h), (fun h => by cases h)⟩
  · rintro f a W ⟨tm, rfl, hJ⟩ hcl i o ho hi hfi hpre
    have k0 : tm[0]? = some (.pointer (some ⟨c, 0, none⟩)) := (hJ.old 0 (by omega)).trans h0
    have b1 := cell_keeps hJ.bel c1
    have b2 := cell_keeps hJ.bel c2
    have cl9 := fun h => hcl 9 _ rfl h
    have cl10 := fun h => hcl 10 _ rfl h
    have cl11 := fun h => hcl 11 _ rfl h
    simp [Region.binds] at cl9 cl10 cl11
    clear hcl
    rcases i with _ | _ | _ | _ | _ | _ | _ | _ | _ | _ | _ | _ | i
    rotate_right
    · exfalso; omega
    all_goals try simp only [Nat.zero_add, Nat.reduceAdd] at hfi ho ⊢
    all_goals simp at ho
    all_goals subst ho
    all_goals simp [Region.binds] at hpre
    all_goals clear hi
    · refine wpOp_of rfl rfl ?_
      go_simp
      exact hJ.same (i := 0) hT (by decide) rfl (by decide)
    · obtain ⟨x, e, rfl⟩ := hJ.get (k := 0) (by decide) hpre
      refine wpOp_of rfl rfl ?_
      go_simp
      exact hJ.same (i := 1) hT (by decide) rfl (by decide)
    · obtain ⟨x, e, rfl⟩ := hJ.get (k := 1) (by decide) hpre
      refine wpOp_of rfl rfl ?_
      go_simp
      exact hJ.same (i := 2) hT (by decide) rfl (by decide)
    · obtain ⟨x, e, rfl⟩ := hJ.get (k := 2) (by decide) hpre
      refine wpOp_of rfl rfl ?_
      go_simp
      exact hJ.same (i := 3) hT (by decide) rfl (by decide)
    · refine wpOp_of rfl rfl ?_
      go_simp
      refine ⟨by simpa using hJ.sz, fun p hp => ?_, hJ.vals (i := 4) hT (by decide) trivial, hJ.bel.alloc hJ.bel.size _, fun _ _ => ⟨_, ?_, World.ownsRow_lit W #[] 0 hJ.bel.size (by decide) rfl⟩, fun g1 _ => ?_, fun g1 _ => ?_, fun g1 => ?_⟩
      · rw [Array.getElem?_setIfInBounds, if_neg (by omega)]; exact hJ.old p hp
      · rw [Array.getElem?_setIfInBounds, if_pos rfl, if_pos (by rw [hJ.sz]; omega)]
      · exact absurd (cl9 (by simpa [more] using g1)).1 (by rw [hfi]; decide)
      · exact absurd (cl9 (cl10 (by simpa [more] using g1)).2).1 (by rw [hfi]; decide)
      · exact absurd (cl9 (cl10 (cl11 (by simpa [more] using g1))).2).1 (by rw [hfi]; decide)
    · refine wpOp_of rfl rfl ?_
      go_simp
      exact hJ.same (i := 5) hT (by decide) rfl (by decide)
    · obtain ⟨x, e, rfl⟩ := hJ.get (k := 5) (by decide) hpre
      refine wpOp_of rfl rfl ?_
      go_simp
      exact hJ.same (i := 6) hT (by decide) rfl (by decide)
    · obtain ⟨x, e, rfl⟩ := hJ.get (k := 6) (by decide) hpre
      refine wpOp_of rfl rfl ?_
      go_simp
      exact hJ.same (i := 7) hT (by decide) rfl (by decide)
    · obtain ⟨x, e, rfl⟩ := hJ.get (k := 7) (by decide) hpre
      refine wpOp_of rfl rfl ?_
      go_simp
      exact hJ.same (i := 8) hT (by decide) rfl (by decide)
    · obtain ⟨x8, e8, rfl⟩ := hJ.get (k := 8) (by decide) hpre.2
      obtain ⟨x4, e4, o4⟩ := hJ.r4 hpre.1 hfi
      obtain ⟨v', W', hrun, hown, hk⟩ := app_b (cap := cap) o4 (h.below hJ.bel) hJ.bel.size
      refine wpOp_of rfl rfl (Lib.wp_append_run W _ _ _ _ rfl x4 (.slice (some ⟨d, 0, none⟩) F.t.n cap) (by simp [Act.eval, e4]) (by simp [Act.eval, e8]) _ _ hrun ?_)
      refine ⟨_, rfl, by simpa using hJ.sz, fun p hp => ?_, hJ.vals (i := 9) hT (by decide) trivial, hJ.bel.trans (hk.below hJ.bel.size fun g e => (o4.lt g e).1), fun g1 g2 => ?_, fun _ _ => ⟨_, ?_, hown⟩, fun g1 _ => ?_, fun g1 => ?_⟩
      · rw [Array.getElem?_setIfInBounds, if_neg (by omega)]; exact hJ.old p hp
      · exact absurd g2 (by simp [more])
      · rw [Array.getElem?_setIfInBounds, if_pos rfl, if_pos (by rw [hJ.sz]; omega)]
      · exact absurd (cl10 (by simpa [more] using g1)).2 (by rw [hfi]; decide)
      · exact absurd (cl10 (cl11 (by simpa [more] using g1))).2 (by rw [hfi]; decide)
    · obtain ⟨x3, e3, rfl⟩ := hJ.get (k := 3) (by decide) hpre.1
      obtain ⟨x9, e9, o9⟩ := hJ.r9 hpre.2 hfi
      obtain ⟨p9, c9, rfl⟩ := own_id_form o9
      refine wpOp_of rfl rfl ?_
      go_simp
      refine ⟨by simpa using hJ.sz, fun p hp => ?_, hJ.vals (i := 10) hT (by decide) trivial, hJ.bel, fun g1 g2 => ?_, fun g1 g2 => ?_, fun _ _ => ⟨_, ?_, o9⟩, fun g1 => ?_⟩
      · rw [Array.getElem?_setIfInBounds, if_neg (by omega)]; exact hJ.old p hp
      · exact absurd (show f 9 = false by simpa [more] using g2) (by rw [hpre.2]; decide)
      · exact absurd g2 (by simp [more])
      · rw [Array.getElem?_setIfInBounds, if_pos rfl, if_pos (by rw [hJ.sz]; omega)]
      · exact absurd (cl11 (by simpa [more] using g1)) (by rw [hfi]; decide)
    · obtain ⟨x10, e10, o10⟩ := hJ.r10 hpre hfi
      have hp9 := (cl10 hpre).2
      refine wpOp_of rfl rfl ?_
      go_simp
      refine ⟨by simpa using hJ.sz, fun p hp => ?_, hJ.vals (i := 11) hT (by decide) trivial, hJ.bel.alloc hJ.bel.size _, fun g1 g2 => ?_, fun g1 g2 => ?_, fun g1 g2 => ?_, fun _ => ⟨_, _, ?_, hJ.bel.size, Bk.new W _ _, o10.alloc _⟩⟩
      · rw [Array.getElem?_setIfInBounds, if_neg (by omega)]; exact hJ.old p hp
      · exact absurd (show f 9 = false by simpa [more] using g2) (by rw [hp9]; decide)
      · exact absurd (show f 10 = false by simpa [more] using g2) (by rw [hpre]; decide)
      · exact absurd g2 (by simp [more])
      · rw [Array.getElem?_setIfInBounds, if_pos rfl, if_pos (by rw [hJ.sz]; omega)]
  · rintro f a W ⟨tm, rfl, hJ⟩ hal
    obtain ⟨b, x, e11, hb, hbk, ho⟩ := hJ.r11 (hal 11 (by decide))
    refine wpOp_of rfl rfl ?_
    go_simp
    obtain ⟨d', hd, hD⟩ := dw_of_own h.ok rfl hbk ho
    refine hQ _ b W ⟨d', hD, hb, hd, hJ.bel⟩ ?_
    rw [Array.getElem?_setIfInBounds, if_pos rfl, if_pos (by rw [hJ.sz]; omega)]
set_option maxRecDepth 100000 in
theorem dcopy_ok (c d : Nat) (F : Po) (w : World) (h : DW w c d F) : Calls Tryz.prog 88 #[.pointer (some ⟨c, 0, none⟩)] w fun e w' => ∃ c', e = .returned (.pointer (some ⟨c', 0, none⟩)) ∧ Hid (DNew F w c' w') := by
  have HV := Lib.hid (dvalid_eq c d F w h)
  go_enter Tryz.func88, Tryz.ntmps88
  go_wp2_with (go_at_call 130; refine HV.out.mono ?_; rintro e w' ⟨rfl, rfl⟩)
  rename_i K hK
  refine copy_region rfl rfl h ?_
  intro tm b W hN htm
  refine hK _ _ ?_
  go_wp2
  refine bodyPost_ret (v := .pointer (some ⟨b, 0, none⟩)) ?_ rfl ⟨b, rfl, hN⟩
  simp [results, Tryz.results88, go_sem, Array.getD_eq_getD_getElem?, htm]
end Go.Proofs.YtpinmiplefidpaaGreatDoor.BF
