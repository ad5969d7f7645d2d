/- Plain mathematics of paints: the slots of a colour, what each call makes of a paint and answers. -/
namespace Go.Proofs.Ythcpmcdgojgdlaa

def put (f : Nat → Nat) (j v : Nat) : Nat → Nat := fun i => if i = j then v else f i
theorem put_same (f : Nat → Nat) (j v : Nat) : put f j v j = v := by simp [put]
theorem put_other {f : Nat → Nat} {j v i : Nat} (h : i ≠ j) : put f j v i = f i := by simp [put, h]

/-- The numbers below n at which f is v, in order. -/
def sel (f : Nat → Nat) (v n : Nat) : List Nat := (List.range n).filter fun i => f i == v
theorem mem_sel {f : Nat → Nat} {v n i : Nat} : i ∈ sel f v n ↔ i < n ∧ f i = v := by simp [sel]
theorem sel_zero (f : Nat → Nat) (v : Nat) : sel f v 0 = [] := rfl
theorem sel_snoc (f : Nat → Nat) (v k : Nat) : sel f v (k + 1) = sel f v k ++ if f k = v then [k] else [] := by
  unfold sel
  rw [List.range_succ, List.filter_append]
  by_cases h : f k = v <;> simp [h]
theorem sel_len (f : Nat → Nat) (v n : Nat) : (sel f v n).length ≤ n := by
  have := List.length_filter_le (fun i => f i == v) (List.range n)
  simpa [sel] using this
theorem sel_sorted (f : Nat → Nat) (v n : Nat) : (sel f v n).Pairwise (· < ·) := List.Pairwise.filter _ List.pairwise_lt_range
theorem sel_congr {f h : Nat → Nat} {v n : Nat} (e : ∀ i, i < n → (f i = v ↔ h i = v)) : sel f v n = sel h v n := by
  unfold sel
  refine List.filter_congr fun i hi => ?_
  have := e i (List.mem_range.1 hi)
  rw [Bool.eq_iff_iff]
  simpa using this
/-- The same from k on. -/
def selFrom (f : Nat → Nat) (v k n : Nat) : List Nat := (List.range' k (n - k)).filter fun i => f i == v
theorem selFrom_zero (f : Nat → Nat) (v n : Nat) : selFrom f v 0 n = sel f v n := by simp [selFrom, sel, List.range_eq_range']
theorem selFrom_done (f : Nat → Nat) (v : Nat) {k n : Nat} (h : n ≤ k) : selFrom f v k n = [] := by
  have : n - k = 0 := by omega
  simp [selFrom, this]
theorem selFrom_step (f : Nat → Nat) (v : Nat) {k n : Nat} (h : k < n) : selFrom f v k n = (if f k = v then [k] else []) ++ selFrom f v (k + 1) n := by
  unfold selFrom
  obtain ⟨d, hd⟩ : ∃ d, n - k = d + 1 := ⟨n - k - 1, by omega⟩
  have h2 : n - (k + 1) = d := by omega
  rw [hd, h2, List.range'_succ, List.filter_cons]
  by_cases e : f k = v <;> simp [e]

/-- All three states together are all slots. -/
theorem sel_all {f : Nat → Nat} (hf : ∀ i, f i ≤ 2) : ∀ n, (sel f 1 n).length + (sel f 0 n).length + (sel f 2 n).length = n
  | 0 => rfl
  | n + 1 => by
    have h := sel_all hf n
    have h2 := hf n
    rw [sel_snoc, sel_snoc, sel_snoc]
    simp only [List.length_append]
    by_cases h0 : f n = 0
    · simp [h0]; omega
    · by_cases h1 : f n = 1
      · simp [h1]; omega
      · have : f n = 2 := by omega
        simp [this]; omega
theorem sel_put_len {f : Nat → Nat} {v j u n : Nat} (hj : j < n) : (sel (put f j u) v n).length + (if f j = v then 1 else 0) = (sel f v n).length + if u = v then 1 else 0 := by
  induction n with
  | zero => omega
  | succ n ih =>
    rw [sel_snoc, sel_snoc, List.length_append, List.length_append]
    by_cases h : j = n
    · subst h
      have e : sel (put f j u) v j = sel f v j := sel_congr fun i hi => by rw [put_other (by omega)]
      rw [e, put_same]
      by_cases h1 : u = v <;> by_cases h2 : f j = v <;> simp [h1, h2] <;> omega
    · have := ih (by omega)
      rw [put_other (by omega)]
      omega

/-- A paint: how many slots, their colours (0 white, 1 grey, 2 black). -/
structure Pt where
  n : Nat
  c : Nat → Nat
structure Pt.Ok (P : Pt) : Prop where
  lo : 1 ≤ P.n
  hi : P.n ≤ 256
  le : ∀ i, P.c i ≤ 2
  out : ∀ i, P.n ≤ i → P.c i = 0
def white (n : Nat) : Pt := ⟨n, fun _ => 0⟩
def Pt.set (P : Pt) (k v : Nat) : Pt := ⟨P.n, put P.c k v⟩
theorem white_ok {n : Nat} (h1 : 1 ≤ n) (h2 : n ≤ 256) : (white n).Ok := ⟨h1, h2, fun _ => Nat.zero_le _, fun _ _ => rfl⟩
theorem Pt.Ok.set {P : Pt} (h : P.Ok) {k v : Nat} (hk : k < P.n) (hv : v ≤ 2) : (P.set k v).Ok :=
  ⟨h.lo, h.hi, fun i => by have := h.le i; simp only [Pt.set, put]; split <;> omega, fun i hi => by
    have hi : P.n ≤ i := hi
    have := h.out i hi; simp only [Pt.set, put]; split <;> omega⟩
theorem Pt.Ok.white {P : Pt} (h : P.Ok) : (white P.n).Ok := white_ok h.lo h.hi
/-- Is there such a slot. -/
def Pt.at_ (P : Pt) (k : Int) : Prop := 0 ≤ k ∧ k < P.n
instance (P : Pt) (k : Int) : Decidable (P.at_ k) := inferInstanceAs (Decidable (0 ≤ k ∧ k < P.n))
def Pt.chk (P : Pt) (k : Int) : Int := if P.at_ k then 0 else 3
def Pt.of_ (P : Pt) (k : Int) : Nat := if P.at_ k then P.c k.toNat else 0
/-- A slot turns to v, just if it was a. -/
def Pt.turn (P : Pt) (k : Int) (a v : Nat) : Pt := if P.at_ k ∧ P.c k.toNat = a then P.set k.toNat v else P
def Pt.turnE (P : Pt) (k : Int) (a : Nat) : Int := if P.at_ k then (if P.c k.toNat = a then 0 else 8) else 3
def Pt.shadeB (P : Pt) (k : Int) : Bool := decide (P.at_ k ∧ P.c k.toNat = 0)
def Pt.bleach (P : Pt) (k : Int) : Pt := if P.at_ k then P.set k.toNat 0 else P
/-- The grey slots from k on. -/
def Pt.greys (P : Pt) (k : Int) : List Nat := selFrom P.c 1 k.toNat P.n
def Pt.cnt (P : Pt) (v : Nat) : Nat := (sel P.c v P.n).length
theorem Pt.turn_n (P : Pt) (k : Int) (a v : Nat) : (P.turn k a v).n = P.n := by unfold turn; split <;> rfl
theorem Pt.bleach_n (P : Pt) (k : Int) : (P.bleach k).n = P.n := by unfold bleach; split <;> rfl
theorem Pt.Ok.turn {P : Pt} (h : P.Ok) (k : Int) (a : Nat) {v : Nat} (hv : v ≤ 2) : (P.turn k a v).Ok := by
  unfold Pt.turn
  split
  · rename_i h1
    have h1 := h1.1
    unfold Pt.at_ at h1
    exact h.set (by omega) hv
  · exact h
theorem Pt.Ok.bleach {P : Pt} (h : P.Ok) (k : Int) : (P.bleach k).Ok := by
  unfold Pt.bleach
  split
  · rename_i h1
    unfold Pt.at_ at h1
    exact h.set (by omega) (by decide)
  · exact h
theorem Pt.at_nat (P : Pt) (k : Nat) : P.at_ (k : Int) ↔ k < P.n := by unfold Pt.at_; omega
theorem Pt.cnt_le (P : Pt) (v : Nat) : P.cnt v ≤ P.n := sel_len _ _ _
theorem Pt.cnt_all {P : Pt} (h : P.Ok) : P.cnt 0 + P.cnt 1 + P.cnt 2 = P.n := by
  have := sel_all h.le P.n
  unfold Pt.cnt; omega
end Go.Proofs.Ythcpmcdgojgdlaa
