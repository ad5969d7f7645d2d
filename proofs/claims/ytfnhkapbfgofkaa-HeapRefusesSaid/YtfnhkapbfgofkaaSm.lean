/- Plain mathematics of tables of slots: the slots in a state, what a take and a give make of a table, a run of turns. -/
namespace Go.Proofs.Ytfnhkapbfgofkaa

def put (f : Nat → Nat) (j v : Nat) : Nat → Nat := fun i => if i = j then v else f i
theorem put_same (f : Nat → Nat) (j v : Nat) : put f j v j = v := by simp [put]
theorem put_other {f : Nat → Nat} {j v i : Nat} (h : i ≠ j) : put f j v i = f i := by simp [put, h]

/-- The numbers below n at which f is v, in order. -/
def sel (f : Nat → Nat) (v n : Nat) : List Nat := (List.range n).filter fun i => f i == v
theorem mem_sel {f : Nat → Nat} {v n i : Nat} : i ∈ sel f v n ↔ i < n ∧ f i = v := by simp [sel]
theorem sel_zero (f : Nat → Nat) (v : Nat) : sel f v 0 = [] := rfl
theorem sel_snoc (f : Nat → Nat) (v k : Nat) : sel f v (k + 1) = sel f v k ++ if f k = v then [k] else [] := by
  unfold sel
  rw [List.range_succ, List.filter_append]
  by_cases h : f k = v <;> simp [h]
theorem sel_len (f : Nat → Nat) (v n : Nat) : (sel f v n).length ≤ n := by
  have := List.length_filter_le (fun i => f i == v) (List.range n)
  simpa [sel] using this
theorem sel_sorted (f : Nat → Nat) (v n : Nat) : (sel f v n).Pairwise (· < ·) := List.Pairwise.filter _ List.pairwise_lt_range
theorem sel_congr {f h : Nat → Nat} {v n : Nat} (e : ∀ i, i < n → (f i = v ↔ h i = v)) : sel f v n = sel h v n := by
  unfold sel
  refine List.filter_congr fun i hi => ?_
  have := e i (List.mem_range.1 hi)
  rw [Bool.eq_iff_iff]
  simpa using this
/-- The same from k on. -/
def selFrom (f : Nat → Nat) (v k n : Nat) : List Nat := (List.range' k (n - k)).filter fun i => f i == v
theorem selFrom_zero (f : Nat → Nat) (v n : Nat) : selFrom f v 0 n = sel f v n := by simp [selFrom, sel, List.range_eq_range']
theorem selFrom_done (f : Nat → Nat) (v : Nat) {k n : Nat} (h : n ≤ k) : selFrom f v k n = [] := by
  have : n - k = 0 := by omega
  simp [selFrom, this]
theorem selFrom_step (f : Nat → Nat) (v : Nat) {k n : Nat} (h : k < n) : selFrom f v k n = (if f k = v then [k] else []) ++ selFrom f v (k + 1) n := by
  unfold selFrom
  obtain ⟨d, hd⟩ : ∃ d, n - k = d + 1 := ⟨n - k - 1, by omega⟩
  have h2 : n - (k + 1) = d := by omega
  rw [hd, h2, List.range'_succ, List.filter_cons]
  by_cases e : f k = v <;> simp [e]

/-- All three states together are all slots. -/
theorem sel_all {f : Nat → Nat} (hf : ∀ i, f i ≤ 2) : ∀ n, (sel f 1 n).length + (sel f 0 n).length + (sel f 2 n).length = n
  | 0 => rfl
  | n + 1 => by
    have h := sel_all hf n
    have h2 := hf n
    rw [sel_snoc, sel_snoc, sel_snoc]
    simp only [List.length_append]
    by_cases h0 : f n = 0
    · simp [h0]; omega
    · by_cases h1 : f n = 1
      · simp [h1]; omega
      · have : f n = 2 := by omega
        simp [this]; omega
theorem sel_put_len {f : Nat → Nat} {v j u n : Nat} (hj : j < n) : (sel (put f j u) v n).length + (if f j = v then 1 else 0) = (sel f v n).length + if u = v then 1 else 0 := by
  induction n with
  | zero => omega
  | succ n ih =>
    rw [sel_snoc, sel_snoc, List.length_append, List.length_append]
    by_cases h : j = n
    · subst h
      have e : sel (put f j u) v j = sel f v j := sel_congr fun i hi => by rw [put_other (by omega)]
      rw [e, put_same]
      by_cases h1 : u = v <;> by_cases h2 : f j = v <;> simp [h1, h2] <;> omega
    · have := ih (by omega)
      rw [put_other (by omega)]
      omega

/-- A table: how many slots, their states (0 free, 1 taken, 2 retired), their generations. -/
structure Tb where
  n : Nat
  s : Nat → Nat
  g : Nat → Nat
structure Tb.Ok (T : Tb) : Prop where
  lo : 1 ≤ T.n
  hi : T.n ≤ 256
  st : ∀ i, T.s i ≤ 2
  gm : ∀ i, T.g i ≤ 4294967295
  g1 : ∀ i, i < T.n → 1 ≤ T.g i
def Tb.free (T : Tb) : List Nat := sel T.s 0 T.n
def Tb.held (T : Tb) : List Nat := sel T.s 1 T.n
def Tb.gone (T : Tb) : List Nat := sel T.s 2 T.n
/-- Slots with their generations. -/
def Tb.refs (T : Tb) (l : List Nat) : List (Nat × Nat) := l.map fun i => (i, T.g i)
def Tb.now (T : Tb) : List (Nat × Nat) := T.refs T.held
def Tb.took (T : Tb) (i : Nat) : Tb := ⟨T.n, put T.s i 1, T.g⟩
def Tb.gave (T : Tb) (i : Nat) : Tb := if T.g i = 4294967295 then ⟨T.n, put T.s i 2, T.g⟩ else ⟨T.n, put T.s i 0, put T.g i (T.g i + 1)⟩
def Tb.take (T : Tb) : Tb := match T.free with
  | [] => T
  | i :: _ => T.took i
def fresh (n g : Nat) : Tb := ⟨n, fun _ => 0, fun i => if i < n then g else 0⟩

theorem Tb.took_n (T : Tb) (i : Nat) : (T.took i).n = T.n := rfl
theorem Tb.gave_n (T : Tb) (i : Nat) : (T.gave i).n = T.n := by unfold gave; split <;> rfl
theorem Tb.take_n (T : Tb) : T.take.n = T.n := by unfold take; split <;> rfl
theorem fresh_ok {n g : Nat} (h1 : 1 ≤ n) (h2 : n ≤ 256) (h3 : 1 ≤ g) (h4 : g ≤ 4294967295) : (fresh n g).Ok :=
  ⟨h1, h2, fun _ => by simp [fresh], fun i => by simp only [fresh]; split <;> omega, fun i hi => by simp only [fresh] at hi ⊢; rw [if_pos hi]; exact h3⟩
theorem Tb.Ok.took {T : Tb} (h : T.Ok) (i : Nat) : (T.took i).Ok :=
  ⟨h.lo, h.hi, fun k => by have := h.st k; simp only [Tb.took, put]; split <;> omega, h.gm, h.g1⟩
theorem Tb.Ok.gave {T : Tb} (h : T.Ok) (i : Nat) : (T.gave i).Ok := by
  have hg := h.gm i
  unfold Tb.gave
  split
  · exact ⟨h.lo, h.hi, fun k => by have := h.st k; simp only [put]; split <;> omega, h.gm, h.g1⟩
  · exact ⟨h.lo, h.hi, fun k => by have := h.st k; simp only [put]; split <;> omega, fun k => by have := h.gm k; simp only [put]; split <;> omega, fun k hk => by have := h.g1 k hk; simp only [put]; split <;> omega⟩
theorem Tb.Ok.take {T : Tb} (h : T.Ok) : T.take.Ok := by
  unfold Tb.take
  split
  · exact h
  · exact h.took _
theorem Tb.free_lt {T : Tb} {i : Nat} {r : List Nat} (h : T.free = i :: r) : i < T.n ∧ T.s i = 0 := mem_sel.1 (show i ∈ sel T.s 0 T.n from by unfold Tb.free at h; rw [h]; simp)
theorem Tb.held_len (T : Tb) (h : T.Ok) : T.held.length ≤ 256 := by have := sel_len T.s 1 T.n; have := h.hi; unfold Tb.held; omega
theorem Tb.held_at {T : Tb} {j i : Nat} (h : T.held[j]? = some i) : i < T.n ∧ T.s i = 1 := mem_sel.1 (List.mem_of_getElem? h)
theorem Tb.now_len (T : Tb) : T.now.length = T.held.length := by simp [Tb.now, Tb.refs]
theorem Tb.now_at {T : Tb} {j : Nat} {r : Nat × Nat} (h : T.now[j]? = some r) : r.1 < T.n ∧ T.s r.1 = 1 ∧ r.2 = T.g r.1 := by
  simp only [Tb.now, Tb.refs, List.getElem?_map, Option.map_eq_some_iff] at h
  obtain ⟨i, h1, rfl⟩ := h
  exact ⟨(Tb.held_at h1).1, (Tb.held_at h1).2, rfl⟩
theorem Tb.mem_now {T : Tb} {r : Nat × Nat} : r ∈ T.now ↔ r.1 < T.n ∧ T.s r.1 = 1 ∧ T.g r.1 = r.2 := by
  obtain ⟨a, b⟩ := r
  simp only [Tb.now, Tb.refs, List.mem_map, Tb.held, mem_sel, Prod.mk.injEq]
  constructor
  · rintro ⟨i, ⟨h1, h2⟩, rfl, rfl⟩; exact ⟨h1, h2, rfl⟩
  · rintro ⟨h1, h2, h3⟩; exact ⟨a, ⟨h1, h2⟩, rfl, h3⟩

/-- What Check and Give answer. -/
def Tb.chk (T : Tb) (i g : Int) : Int := if i < 0 ∨ (T.n : Int) ≤ i then 3 else if T.s i.toNat = 1 ∧ (T.g i.toNat : Int) = g then 0 else 7
def Tb.given (T : Tb) (i g : Int) : Tb := if T.chk i g = 0 then T.gave i.toNat else T
theorem Tb.chk_held {T : Tb} {i : Nat} (h1 : i < T.n) (h2 : T.s i = 1) : T.chk (i : Int) (T.g i : Int) = 0 := by
  have e1 : ¬ ((i : Int) < 0 ∨ (T.n : Int) ≤ (i : Int)) := by omega
  unfold Tb.chk
  rw [if_neg e1, if_pos ⟨by simpa using h2, by simp⟩]
theorem Tb.chk_zero {T : Tb} {i g : Int} (h : T.chk i g = 0) : 0 ≤ i ∧ i < T.n ∧ T.s i.toNat = 1 ∧ (T.g i.toNat : Int) = g := by
  unfold Tb.chk at h
  split at h
  · omega
  · split at h
    · rename_i h1 h2; exact ⟨by omega, by omega, h2.1, h2.2⟩
    · omega
theorem Tb.Ok.given {T : Tb} (h : T.Ok) (i g : Int) : (T.given i g).Ok := by unfold Tb.given; split; exact h.gave _; exact h
theorem Tb.given_n (T : Tb) (i g : Int) : (T.given i g).n = T.n := by unfold Tb.given; split; exact T.gave_n _; rfl
theorem Tb.given_held {T : Tb} {i : Nat} (h1 : i < T.n) (h2 : T.s i = 1) : T.given (i : Int) (T.g i : Int) = T.gave i := by
  unfold Tb.given; rw [if_pos (Tb.chk_held h1 h2)]; rfl

/-! ### runs of turns -/
/-- A turn: a take, or giving back one of those that are taken. -/
def Tb.turn (T : Tb) (give : Bool) (q : Nat) : Tb := if give = true then (match T.held[q % T.held.length]? with | some i => T.gave i | none => T) else T.take
/-- What a turn takes. -/
def Tb.gets (T : Tb) (give : Bool) : List (Nat × Nat) := if give = true then [] else (match T.free with | [] => [] | i :: _ => [(i, T.g i)])
def runT (T : Tb) (c : Nat → Bool) (q : Nat → Nat) : Nat → Tb
  | 0 => T
  | k + 1 => (runT T c q k).turn (c k) (q k)
def runL (T : Tb) (c : Nat → Bool) (q : Nat → Nat) : Nat → List (Nat × Nat)
  | 0 => []
  | k + 1 => runL T c q k ++ (runT T c q k).gets (c k)
theorem Tb.Ok.turn {T : Tb} (h : T.Ok) (c : Bool) (q : Nat) : (T.turn c q).Ok := by
  unfold Tb.turn
  split
  · split
    · exact h.gave _
    · exact h
  · exact h.take
theorem Tb.turn_n (T : Tb) (c : Bool) (q : Nat) : (T.turn c q).n = T.n := by
  unfold Tb.turn
  split
  · split
    · exact T.gave_n _
    · rfl
  · exact T.take_n
theorem runT_ok {T : Tb} (h : T.Ok) (c : Nat → Bool) (q : Nat → Nat) : ∀ k, (runT T c q k).Ok
  | 0 => h
  | k + 1 => (runT_ok h c q k).turn _ _
theorem runT_n (T : Tb) (c : Nat → Bool) (q : Nat → Nat) : ∀ k, (runT T c q k).n = T.n
  | 0 => rfl
  | k + 1 => by unfold runT; rw [Tb.turn_n, runT_n T c q k]
theorem runL_len (T : Tb) (c : Nat → Bool) (q : Nat → Nat) : ∀ k, (runL T c q k).length ≤ k
  | 0 => by simp [runL]
  | k + 1 => by
    have := runL_len T c q k
    unfold runL Tb.gets
    split
    · simp; omega
    · split <;> simp <;> omega
/-- What was taken: in range, in a generation of that slot that is over, or is this one and not free. -/
def Tb.Was (T : Tb) (r : Nat × Nat) : Prop := r.1 < T.n ∧ (r.2 < T.g r.1 ∨ r.2 = T.g r.1 ∧ T.s r.1 ≠ 0)
theorem Tb.Was.gave {T : Tb} {r : Nat × Nat} (h : T.Was r) {i : Nat} (_hi : T.s i = 1) : (T.gave i).Was r := by
  obtain ⟨h1, h2⟩ := h
  refine ⟨by rw [T.gave_n]; exact h1, ?_⟩
  unfold Tb.gave
  split
  · by_cases e : r.1 = i
    · rcases h2 with h2 | h2
      · exact .inl h2
      · exact .inr ⟨h2.1, by simp [put, e]⟩
    · rcases h2 with h2 | h2
      · exact .inl h2
      · exact .inr ⟨h2.1, by simp only []; rw [put_other e]; exact h2.2⟩
  · by_cases e : r.1 = i
    · left; simp only []; rw [e, put_same]; rw [e] at h2; omega
    · simp only []; rw [put_other e, put_other e]; exact h2
theorem Tb.Was.took {T : Tb} {r : Nat × Nat} (h : T.Was r) (i : Nat) : (T.took i).Was r := by
  obtain ⟨h1, h2⟩ := h
  refine ⟨h1, ?_⟩
  rcases h2 with h2 | h2
  · exact .inl h2
  · refine .inr ⟨h2.1, ?_⟩
    by_cases e : r.1 = i
    · simp [Tb.took, e, put_same]
    · simp only [Tb.took]; rw [put_other e]; exact h2.2
theorem turn_was {T : Tb} {L : List (Nat × Nat)} (hL : ∀ r ∈ L, T.Was r) (hd : L.Nodup) (c : Bool) (q : Nat) : (∀ r ∈ L ++ T.gets c, (T.turn c q).Was r) ∧ (L ++ T.gets c).Nodup := by
  unfold Tb.gets Tb.turn
  split
  · rw [List.append_nil]
    refine ⟨?_, hd⟩
    split
    · rename_i i hi
      exact fun r hr => (hL r hr).gave (Tb.held_at hi).2
    · exact hL
  · unfold Tb.take
    split
    · rw [List.append_nil]; exact ⟨hL, hd⟩
    · rename_i i t hf
      obtain ⟨f1, f2⟩ := Tb.free_lt hf
      refine ⟨fun r hr => ?_, ?_⟩
      · rcases List.mem_append.1 hr with hr | hr
        · exact (hL r hr).took i
        · simp only [List.mem_singleton] at hr
          subst hr
          exact ⟨f1, .inr ⟨rfl, by simp [Tb.took, put_same]⟩⟩
      · rw [List.nodup_append]
        refine ⟨hd, by simp, fun a ha b hb => ?_⟩
        simp only [List.mem_singleton] at hb
        subst hb
        rintro rfl
        obtain ⟨_, h2⟩ := hL _ ha
        simp only [f2] at h2
        omega
theorem run_was (T : Tb) (c : Nat → Bool) (q : Nat → Nat) : ∀ k, (∀ r ∈ runL T c q k, (runT T c q k).Was r) ∧ (runL T c q k).Nodup
  | 0 => by simp [runL]
  | k + 1 => turn_was (run_was T c q k).1 (run_was T c q k).2 _ _
/-- The first generation of each slot is not above what it has now, and retired slots stay. -/
theorem turn_grows (T : Tb) (c : Bool) (q i : Nat) : T.g i ≤ (T.turn c q).g i := by
  unfold Tb.turn Tb.take Tb.gave Tb.took
  split
  · split
    · split
      · exact Nat.le_refl _
      · simp only [put]; split
        · rename_i h; subst h; omega
        · exact Nat.le_refl _
    · exact Nat.le_refl _
  · split <;> exact Nat.le_refl _
theorem gone_grows {T : Tb} {i v : Nat} (hi : i < T.n) (h2 : T.s i ≠ 2) : (sel T.s 2 T.n).length ≤ (sel (put T.s i v) 2 T.n).length := by
  have := sel_put_len (f := T.s) (v := 2) (u := v) hi
  rw [if_neg h2] at this
  omega
end Go.Proofs.Ytfnhkapbfgofkaa
