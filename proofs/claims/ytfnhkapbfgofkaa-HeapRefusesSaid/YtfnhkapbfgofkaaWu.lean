/- A region whose order is drawn, whatever the frame: by what holds when some of its operations have come up; the form of a region that calls once and boxes one result. -/
import Derived.Test.YtfnhkapbfgofkaaWk
import Derived.Orders
namespace Go.Proofs.Ytfnhkapbfgofkaa
open Go.RowKit

theorem wpOp_of {P : Program} {ops : Array Oper} {Q : Exit → Act → World → Prop} {i : Nat} {o : Oper} {K : Act → World → Prop} {a : Act} {w : World} (ho : ops[i]? = some o) (hg : o.guard = none) (h : o.wp P a w K Q) : wpOp P ops Q i K a w := by
  unfold wpOp
  rw [ho]
  have hw : Region.wanted o (yielded ops a.tmps) = true := by simp [Region.wanted, hg]
  simp only [hw, if_true]
  exact .inl h

/-- J f a w: the operations that f names have come up, and no others. -/
theorem region_by {P : Program} {ops : Array Oper} {Q : Exit → Act → World → Prop} {id : Nat} {a : Act} {w : World}
    (J : (Nat → Bool) → Act → World → Prop) (hm : P.follows .mixedOrders = true)
    (hord : ∀ i o, ops[i]? = some o → ∀ e ∈ o.after, Region.binds .any e = true → e.on < i)
    (h0 : J (fun _ => false) a w.drew)
    (hs : ∀ (f : Nat → Bool) (a : Act) (w : World), J f a w → ∀ i o, ops[i]? = some o → f i = false → (∀ e ∈ o.after, Region.binds .any e = true → f e.on = true) → wpOp P ops Q i (J (fun j => if j = i then true else f j)) a w)
    (he : ∀ f a w, J f a w → (∀ i, i < ops.size → f i = true) → Q .normal a w) : (Code.region id ops true).wp P Q a w := by
  have all : ∀ (listed : Array Bool), listed.size = ops.size → Region.ready .any ops listed = [] → ∀ i, i < ops.size → listed.getD i false = true := by
    intro listed hsz hr i
    induction i using Nat.strongRecOn with
    | ind i ih =>
      intro hi
      cases hc : listed.getD i false with
      | true => rfl
      | false =>
        exfalso
        have : i ∈ Region.ready .any ops listed := by
          refine mem_ready.2 ⟨?_, ops[i], Array.getElem?_eq_getElem hi, fun e hee hb => ?_⟩
          · simp only [Array.getD_eq_getD_getElem?] at hc ⊢
            rw [Array.getElem?_eq_getElem (by omega)] at hc ⊢
            exact hc
          · have hlt := hord i ops[i] (Array.getElem?_eq_getElem hi) e hee hb
            exact ih e.on hlt (by omega)
        rw [hr] at this
        cases this
  have key : ∀ (fuel : Nat) (listed : Array Bool) (f : Nat → Bool) (a : Act) (w : World), listed.size = ops.size → (∀ j, listed.getD j false = f j) → listed.toList.countP (fun b => !b) ≤ fuel → J f a w → wpAny P .any ops Q fuel listed a w := by
    intro fuel
    induction fuel with
    | zero =>
      intro listed f a w hsz hf hc hJ
      have h1 : ∀ i, i < ops.size → f i = true := fun i hi => by
        have h2 := List.countP_eq_zero.1 (Nat.le_zero.1 hc) (listed[i]'(by omega)) (by simp)
        rw [← hf, Array.getD_eq_getD_getElem?, Array.getElem?_eq_getElem (by omega)]
        simpa using h2
      refine ⟨?_, he f a w hJ h1⟩
      apply List.eq_nil_iff_forall_not_mem.2
      intro j hj
      obtain ⟨g1, o, ho, _⟩ := mem_ready.1 hj
      have hjlt : j < ops.size := (Array.getElem?_eq_some_iff.1 ho).1
      have := h1 j hjlt
      rw [← hf] at this
      rw [Array.getD_eq_getD_getElem?, Array.getElem?_eq_getElem (by omega)] at g1 this
      simp at g1 this
      rw [g1] at this; cases this
    | succ fuel ih =>
      intro listed f a w hsz hf hc hJ
      refine ⟨fun hr => he f a w hJ fun i hi => by rw [← hf]; exact all listed hsz hr i hi, fun i hi => ?_⟩
      obtain ⟨g1, o, ho, g2⟩ := mem_ready.1 hi
      have hilt : i < ops.size := (Array.getElem?_eq_some_iff.1 ho).1
      have g3 : f i = false := by
        rw [← hf]
        rw [Array.getD_eq_getD_getElem?, Array.getElem?_eq_getElem (by omega)] at g1 ⊢
        exact g1
      refine wpOp_mono (fun a' w' h => ?_) (hs f a w hJ i o ho g3 fun e hee hb => by rw [← hf]; exact g2 e hee hb)
      refine ih _ _ a' w' (by simp [hsz]) (fun j => ?_) ?_ h
      · simp only [Array.getD_eq_getD_getElem?, Array.getElem?_setIfInBounds]
        by_cases hj : j = i
        · subst hj; simp [hsz, hilt]
        · rw [if_neg (fun e => hj e.symm), if_neg hj, ← hf, Array.getD_eq_getD_getElem?]
      · have hb : listed.toList[i]'(by simp [hsz, hilt]) = false := by
          rw [Array.getD_eq_getD_getElem?, Array.getElem?_eq_getElem (by omega)] at g1
          simpa using g1
        rw [Array.toList_setIfInBounds, List.countP_set (h := by simp [hsz, hilt]), hb]
        simp only [Bool.not_false, Bool.not_true, if_true, Bool.false_eq_true, if_false]
        omega
  refine wp_region_any hm ?_
  refine key ops.size (Array.replicate ops.size false) (fun _ => false) a w.drew (by simp) (fun j => ?_) ?_ h0
  · rw [Array.getD_eq_getD_getElem?, Array.getElem?_replicate]
    split <;> rfl
  · refine Nat.le_trans List.countP_le_length ?_
    simp

def Closed (ops : Array Oper) (f : Nat → Bool) : Prop := ∀ i o, ops[i]? = some o → f i = true → ∀ e ∈ o.after, Region.binds .any e = true → f e.on = true
def more (f : Nat → Bool) (i : Nat) : Nat → Bool := fun j => if j = i then true else f j
/-- A region whose last operation comes behind all others: J holds up to it. -/
theorem region_last {P : Program} {ops : Array Oper} {Q : Exit → Act → World → Prop} {id : Nat} {a : Act} {w : World} (m : Nat)
    (J : (Nat → Bool) → Act → World → Prop) (hm : P.follows .mixedOrders = true) (hsz : ops.size = m + 1)
    (hord : ∀ i o, ops[i]? = some o → ∀ e ∈ o.after, Region.binds .any e = true → e.on < i)
    (hall : ∀ f, Closed ops f → (∀ o, ops[m]? = some o → ∀ e ∈ o.after, Region.binds .any e = true → f e.on = true) → ∀ i, i < m → f i = true)
    (h0 : J (fun _ => false) a w.drew)
    (hs : ∀ (f : Nat → Bool) (a : Act) (w : World), J f a w → Closed ops f → ∀ i o, ops[i]? = some o → i < m → f i = false → (∀ e ∈ o.after, Region.binds .any e = true → f e.on = true) → wpOp P ops Q i (J (more f i)) a w)
    (hl : ∀ (f : Nat → Bool) (a : Act) (w : World), J f a w → (∀ i, i < m → f i = true) → wpOp P ops Q m (Q .normal) a w) : (Code.region id ops true).wp P Q a w := by
  refine region_by (fun f a w => Closed ops f ∧ ((f m = false ∧ J f a w) ∨ (f m = true ∧ (∀ i, i < m → f i = true) ∧ Q .normal a w))) hm hord ⟨(fun i o _ h => by cases h), .inl ⟨rfl, h0⟩⟩ ?_ ?_
  · rintro f a w ⟨hc, h⟩ i o ho hfi hpre
    have hc2 : Closed ops (more f i) := fun j o' ho' hj e hee hb => by
      unfold more at hj ⊢
      by_cases he : e.on = i
      · rw [if_pos he]
      · rw [if_neg he]
        by_cases hji : j = i
        · subst hji
          rw [ho] at ho'
          obtain rfl := Option.some.inj ho'
          exact hpre e hee hb
        · rw [if_neg hji] at hj
          exact hc j o' ho' hj e hee hb
    have hilt : i < m + 1 := by rw [← hsz]; exact (Array.getElem?_eq_some_iff.1 ho).1
    rcases h with ⟨hfm, hJ⟩ | ⟨hfm, hal, _⟩
    · by_cases him : i = m
      · subst him
        have hal := hall f hc fun o' ho' => by
          rw [ho] at ho'
          obtain rfl := Option.some.inj ho'
          exact hpre
        refine wpOp_mono (fun a' w' h => ⟨hc2, .inr ⟨if_pos rfl, fun j hj => ?_, h⟩⟩) (hl f a w hJ hal)
        show (if j = i then true else f j) = true
        rw [if_neg (by omega)]
        exact hal j hj
      · refine wpOp_mono (fun a' w' h => ⟨hc2, .inl ⟨?_, h⟩⟩) (hs f a w hJ hc i o ho (by omega) hfi hpre)
        show (if m = i then true else f m) = false
        rw [if_neg (fun e => him e.symm)]
        exact hfm
    · exfalso
      by_cases him : i = m
      · subst him; rw [hfm] at hfi; cases hfi
      · rw [hal i (by omega)] at hfi; cases hfi
  · rintro f a w ⟨_, ⟨hfm, _⟩ | ⟨_, _, h⟩⟩ hal
    · rw [hal m (by omega)] at hfm; cases hfm
    · exact h

theorem wpOp_yes {P : Program} {ops : Array Oper} {Q : Exit → Act → World → Prop} {i : Nat} {o : Oper} {K : Act → World → Prop} {a : Act} {w : World} (ho : ops[i]? = some o) (hw : Region.wanted o (yielded ops a.tmps) = true) (h : o.wp P a w K Q) : wpOp P ops Q i K a w := by
  unfold wpOp
  rw [ho]
  simp only [hw, if_true]
  exact .inl h
theorem wpOp_no {P : Program} {ops : Array Oper} {Q : Exit → Act → World → Prop} {i : Nat} {o : Oper} {K : Act → World → Prop} {a : Act} {w : World} (ho : ops[i]? = some o) (hw : Region.wanted o (yielded ops a.tmps) = false) (h : K (a.put o.dst undef) w) : wpOp P ops Q i K a w := by
  unfold wpOp
  rw [ho]
  simp only [hw, Bool.false_eq_true, if_false]
  exact h
theorem more_other {f : Nat → Bool} {i k : Nat} (h : k ≠ i) : more f i k = f k := if_neg h
theorem more_same (f : Nat → Bool) (i : Nat) : more f i i = true := if_pos rfl
/-- The slots of a region's operations: DD i where HD i; those of PU hold VV once their operation has come up. -/
structure JR (m : Nat) (DD : Nat → Nat) (HD PU : Nat → Bool) (VV : Nat → Value) (T : Array Value) (PH : (Nat → Bool) → Array Value → World → Prop) (f : Nat → Bool) (tm : Array Value) (W : World) : Prop where
  sz : tm.size = T.size
  old : ∀ q, (∀ k, k < m → HD k = true → DD k ≠ q) → tm[q]? = T[q]?
  val : ∀ k, k < m → PU k = true → f k = true → tm[DD k]? = some (VV k)
  ph : PH f tm W
section
variable {m : Nat} {DD : Nat → Nat} {HD PU : Nat → Bool} {VV : Nat → Value} {T tm : Array Value} {PH : (Nat → Bool) → Array Value → World → Prop} {f : Nat → Bool} {W W' : World}
theorem JR.step (h : JR m DD HD PU VV T PH f tm W) {i : Nat} {v : Value} (hi : i < m) (hH : HD i = true) (hT : ∀ k, k < m → HD k = true → DD k < T.size) (hP : ∀ k, k < m → PU k = true → HD k = true) (hinj : ∀ j k, j < m → k < m → HD j = true → HD k = true → DD j = DD k → j = k) (hv : PU i = true → v = VV i) (hp : PH (more f i) (tm.setIfInBounds (DD i) v) W') : JR m DD HD PU VV T PH (more f i) (tm.setIfInBounds (DD i) v) W' := by
  refine ⟨by simpa using h.sz, fun q hq => ?_, fun k hk hpk hf => ?_, hp⟩
  · rw [Array.getElem?_setIfInBounds, if_neg (hq i hi hH)]; exact h.old q hq
  · rw [Array.getElem?_setIfInBounds]
    by_cases e : k = i
    · subst e
      rw [if_pos rfl, if_pos (by rw [h.sz]; exact hT k hi hH), hv hpk]
    · rw [if_neg fun e2 => e (hinj k i hk hi (hP k hk hpk) hH e2.symm)]
      rw [more_other e] at hf
      exact h.val k hk hpk hf
theorem JR.nodst (h : JR m DD HD PU VV T PH f tm W) {i : Nat} (hi : PU i = false) (hp : PH (more f i) tm W') : JR m DD HD PU VV T PH (more f i) tm W' := by
  refine ⟨h.sz, h.old, fun k hk hpk hf => ?_, hp⟩
  have e : k ≠ i := fun e => by rw [e, hi] at hpk; cases hpk
  rw [more_other e] at hf
  exact h.val k hk hpk hf
/-- The frame behind the region: T, with something in each of the region's slots. -/
def frm (m : Nat) (DD : Nat → Nat) (HD : Nat → Bool) (us : Nat → Value) (T : Array Value) : Array Value := (List.range m).foldl (fun t k => if HD k = true then t.setIfInBounds (DD k) (us k) else t) T
theorem frm_at {us : Nat → Value} (hT : ∀ k, k < m → HD k = true → DD k < T.size) (hinj : ∀ j k, j < m → k < m → HD j = true → HD k = true → DD j = DD k → j = k) : ∀ n, n ≤ m → (frm n DD HD us T).size = T.size ∧ (∀ k, k < n → HD k = true → (frm n DD HD us T)[DD k]? = some (us k)) ∧ ∀ q, (∀ k, k < n → HD k = true → DD k ≠ q) → (frm n DD HD us T)[q]? = T[q]?
  | 0, _ => ⟨rfl, fun k hk => by omega, fun q _ => rfl⟩
  | n + 1, hn => by
    obtain ⟨h1, h2, h3⟩ := frm_at (us := us) hT hinj n (by omega)
    have e : frm (n + 1) DD HD us T = if HD n = true then (frm n DD HD us T).setIfInBounds (DD n) (us n) else frm n DD HD us T := by
      unfold frm; rw [List.range_succ, List.foldl_append]; rfl
    rw [e]
    by_cases c : HD n = true
    · rw [if_pos c]
      refine ⟨by simpa using h1, fun k hk hkH => ?_, fun q hq => ?_⟩
      · rw [Array.getElem?_setIfInBounds]
        by_cases e2 : k = n
        · subst e2; rw [if_pos rfl, if_pos (by rw [h1]; exact hT k (by omega) c)]
        · rw [if_neg fun e3 => e2 (hinj k n (by omega) (by omega) hkH c e3.symm)]; exact h2 k (by omega) hkH
      · rw [Array.getElem?_setIfInBounds, if_neg (hq n (by omega) c)]; exact h3 q fun k hk hkH => hq k (by omega) hkH
    · rw [if_neg c]
      refine ⟨h1, fun k hk hkH => h2 k (by
        have : k ≠ n := fun e2 => c (by rw [← e2]; exact hkH)
        omega) hkH, fun q hq => h3 q fun k hk hkH => hq k (by omega) hkH⟩
theorem JR.frame (h : JR m DD HD PU VV T PH f tm W) (hT : ∀ k, k < m → HD k = true → DD k < T.size) (hinj : ∀ j k, j < m → k < m → HD j = true → HD k = true → DD j = DD k → j = k) : tm = frm m DD HD (fun k => (tm[DD k]?).getD undef) T := by
  obtain ⟨h1, h2, h3⟩ := frm_at (us := fun k => (tm[DD k]?).getD undef) hT hinj m (Nat.le_refl _)
  refine Array.ext_getElem? fun q => ?_
  by_cases c : ∃ k, k < m ∧ HD k = true ∧ DD k = q
  · obtain ⟨k, hk, hH, rfl⟩ := c
    rw [h2 k hk hH]
    have hlt : DD k < tm.size := by rw [h.sz]; exact hT k hk hH
    rw [Array.getElem?_eq_getElem hlt]; rfl
  · have c' : ∀ k, k < m → HD k = true → DD k ≠ q := fun k hk hH e => c ⟨k, hk, hH, e⟩
    rw [h3 q c', h.old q c']
end

/-! ### one call, one box -/
/-- How memory stands: the call's (ci), the box's (ai) and the store's (si) operation; BX: the box's slot. -/
def PHc (w1 : World) (S : Nat → Prop) (Z1 Z2 : World → Prop) (ci ai si BX : Nat) (bt : TypeId) (cs0 cs2 : Array Value) (f : Nat → Bool) (tm : Array Value) (W : World) : Prop :=
  Kept S w1 W ∧ (if f ci = true then Z2 W else Z1 W) ∧ (f ai = true → ∃ B, tm[BX]? = some (.pointer (some ⟨B, 0, none⟩)) ∧ Bk W B bt (if f si = true then cs2 else cs0) ∧ w1.heap.size ≤ B)
section
variable {w1 W W' : World} {S : Nat → Prop} {Z1 Z2 : World → Prop} {ci ai si BX : Nat} {bt : TypeId} {cs0 cs2 : Array Value} {f : Nat → Bool} {tm : Array Value}
theorem PHc.pure (h : PHc w1 S Z1 Z2 ci ai si BX bt cs0 cs2 f tm W) {i d : Nat} {v : Value} (h1 : ci ≠ i) (h2 : ai ≠ i) (h3 : si ≠ i) (hd : d ≠ BX) : PHc w1 S Z1 Z2 ci ai si BX bt cs0 cs2 (more f i) (tm.setIfInBounds d v) W := by
  unfold PHc
  rw [more_other h1, more_other h2, more_other h3, Array.getElem?_setIfInBounds, if_neg hd]
  exact h
theorem PHc.call (h : PHc w1 S Z1 Z2 ci ai si BX bt cs0 cs2 f tm W) {d : Nat} {v : Value} (h2 : ai ≠ ci) (h3 : si ≠ ci) (hd : d ≠ BX) (hS : ∀ g, S g → g < w1.heap.size) (hz : Z2 W') (hk : Kept S W W') : PHc w1 S Z1 Z2 ci ai si BX bt cs0 cs2 (more f ci) (tm.setIfInBounds d v) W' := by
  unfold PHc
  rw [more_same, more_other h2, more_other h3, Array.getElem?_setIfInBounds, if_neg hd]
  refine ⟨h.1.trans hk, by rw [if_pos rfl]; exact hz, fun ha => ?_⟩
  obtain ⟨B, b1, b2, b3⟩ := h.2.2 ha
  exact ⟨B, b1, b2.kept hk fun e => by have := hS B e; omega, b3⟩
theorem PHc.alloc (h : PHc w1 S Z1 Z2 ci ai si BX bt cs0 cs2 f tm W) (h1 : ci ≠ ai) (h3 : si ≠ ai) (hs : f si = false) (hB : BX < tm.size) (za1 : ∀ W o, Z1 W → Z1 (W.alloc o)) (za2 : ∀ W o, Z2 W → Z2 (W.alloc o)) : PHc w1 S Z1 Z2 ci ai si BX bt cs0 cs2 (more f ai) (tm.setIfInBounds BX (.pointer (some ⟨W.heap.size, 0, none⟩))) (W.alloc (.cells cs0 bt)) := by
  unfold PHc
  rw [more_other h1, more_other h3, hs, Array.getElem?_setIfInBounds, if_pos rfl, if_pos hB]
  refine ⟨h.1.alloc _, ?_, fun _ => ⟨_, rfl, Bk.new W bt cs0, h.1.size⟩⟩
  have := h.2.1
  split at this
  · rename_i c; rw [if_pos c]; exact za2 _ _ this
  · rename_i c; rw [if_neg c]; exact za1 _ _ this
/-- A reference is stored into its box. -/
theorem PHc.store {q q0 : Rf} (h : PHc w1 S Z1 Z2 ci ai si BX bt cs0 (rfc q) f tm W) {B : Nat} (h1 : ci ≠ si) (h2 : ai ≠ si) (hc : f ci = true) (hB : tm[BX]? = some (.pointer (some ⟨B, 0, none⟩))) (hb : Bk W B bt (rfc q0)) (hl : w1.heap.size ≤ B) (zs : ∀ W c u v, w1.heap.size ≤ c → (∃ cs, Bk W c bt cs) → Z2 W → Z2 ((W.setCell ⟨c, 0, none⟩ u).setCell ⟨c, 1, none⟩ v)) : PHc w1 S Z1 Z2 ci ai si BX bt cs0 (rfc q) (more f si) tm ((W.setCell ⟨B, 0, none⟩ (.int .i64 q.1)).setCell ⟨B, 1, none⟩ (.int .u32 q.2)) := by
  unfold PHc
  rw [more_other h1, more_other h2, more_same, hc]
  have hz := h.2.1
  rw [hc, if_pos rfl] at hz
  refine ⟨(h.1.put (p := ⟨B, 0, none⟩) (.inl hl) _).put (p := ⟨B, 1, none⟩) (.inl hl) _, by rw [if_pos rfl]; exact zs W B _ _ hl ⟨_, hb⟩ hz, fun _ => ⟨B, hB, ?_, hl⟩⟩
  rw [if_pos rfl]
  exact (hb.put 0 _).put 1 _
end
end Go.Proofs.Ytfnhkapbfgofkaa
