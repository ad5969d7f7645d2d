/- The layer S, joined. -/
import Derived.Test.YtpinmiplefidpaaGreatDoorRows
import Derived.WalkKit
import Derived.WalkSpells
import Derived.WalkLawsBesides
import Derived.Lib.Hide
import Derived.Lib.SliceRun
import Derived.Laws.Rows
import Derived.Deep.QuietTactic
import Derived.BigQuiet
import Derived.BigFrame
import Derived.IntWalk
import Derived.Deep.WholeRow
import Derived.RangeFuncNested
import Derived.RangeFuncBound
import Derived.RangeFuncBox
import Derived.RangeFuncCalls
import Derived.RangeFuncLeaves
import Derived.Shelf.Abstract
import Derived.Shelf.RegionOpen
import Derived.OwnWalkIn
import Derived.TacticsInMore
import Derived.LoopNIn
import Derived.LoopIn
import Derived.Maps.AppendAt
import Derived.BigRegionIn
import Derived.Laws.AppendOwn
import Derived.Laws.AppendOwnNone
import Derived.Maps.OwnSet
import Derived.Maps.OwnRows
import Derived.DeepKeys4
import Derived.Carry
import Derived.RegionTactic
namespace Go.Proofs.YtpinmiplefidpaaGreatDoor

def put (f : Nat → Nat) (j v : Nat) : Nat → Nat := fun i => if i = j then v else f i
theorem put_same (f : Nat → Nat) (j v : Nat) : put f j v j = v := by simp [put]
theorem put_other {f : Nat → Nat} {j v i : Nat} (h : i ≠ j) : put f j v i = f i := by simp [put, h]

/-- The numbers below n at which f is v, in order. -/
def sel (f : Nat → Nat) (v n : Nat) : List Nat := (List.range n).filter fun i => f i == v
theorem mem_sel {f : Nat → Nat} {v n i : Nat} : i ∈ sel f v n ↔ i < n ∧ f i = v := by simp [sel]
theorem sel_zero (f : Nat → Nat) (v : Nat) : sel f v 0 = [] := rfl
theorem sel_snoc (f : Nat → Nat) (v k : Nat) : sel f v (k + 1) = sel f v k ++ if f k = v then [k] else [] := by
  unfold sel
  rw [List.range_succ, List.filter_append]
  by_cases h : f k = v <;> simp [h]
theorem sel_len (f : Nat → Nat) (v n : Nat) : (sel f v n).length ≤ n := by
  have := List.length_filter_le (fun i => f i == v) (List.range n)
  simpa [sel] using this
theorem sel_sorted (f : Nat → Nat) (v n : Nat) : (sel f v n).Pairwise (· < ·) := List.Pairwise.filter _ List.pairwise_lt_range
theorem sel_congr {f h : Nat → Nat} {v n : Nat} (e : ∀ i, i < n → (f i = v ↔ h i = v)) : sel f v n = sel h v n := by
  unfold sel
  refine List.filter_congr fun i hi => ?_
  have := e i (List.mem_range.1 hi)
  rw [Bool.eq_iff_iff]
  simpa using this
/-- The same from k on. -/
def selFrom (f : Nat → Nat) (v k n : Nat) : List Nat := (List.range' k (n - k)).filter fun i => f i == v
theorem selFrom_zero (f : Nat → Nat) (v n : Nat) : selFrom f v 0 n = sel f v n := by simp [selFrom, sel, List.range_eq_range']
theorem selFrom_done (f : Nat → Nat) (v : Nat) {k n : Nat} (h : n ≤ k) : selFrom f v k n = [] := by
  have : n - k = 0 := by omega
  simp [selFrom, this]
theorem selFrom_step (f : Nat → Nat) (v : Nat) {k n : Nat} (h : k < n) : selFrom f v k n = (if f k = v then [k] else []) ++ selFrom f v (k + 1) n := by
  unfold selFrom
  obtain ⟨d, hd⟩ : ∃ d, n - k = d + 1 := ⟨n - k - 1, by omega⟩
  have h2 : n - (k + 1) = d := by omega
  rw [hd, h2, List.range'_succ, List.filter_cons]
  by_cases e : f k = v <;> simp [e]

/-- All three states together are all slots. -/
theorem sel_all {f : Nat → Nat} (hf : ∀ i, f i ≤ 2) : ∀ n, (sel f 1 n).length + (sel f 0 n).length + (sel f 2 n).length = n
  | 0 => rfl
  | n + 1 => by
    have h := sel_all hf n
    have h2 := hf n
    rw [sel_snoc, sel_snoc, sel_snoc]
    simp only [List.length_append]
    by_cases h0 : f n = 0
    · simp [h0]; omega
    · by_cases h1 : f n = 1
      · simp [h1]; omega
      · have : f n = 2 := by omega
        simp [this]; omega
theorem sel_put_len {f : Nat → Nat} {v j u n : Nat} (hj : j < n) : (sel (put f j u) v n).length + (if f j = v then 1 else 0) = (sel f v n).length + if u = v then 1 else 0 := by
  induction n with
  | zero => omega
  | succ n ih =>
    rw [sel_snoc, sel_snoc, List.length_append, List.length_append]
    by_cases h : j = n
    · subst h
      have e : sel (put f j u) v j = sel f v j := sel_congr fun i hi => by rw [put_other (by omega)]
      rw [e, put_same]
      by_cases h1 : u = v <;> by_cases h2 : f j = v <;> simp [h1, h2] <;> omega
    · have := ih (by omega)
      rw [put_other (by omega)]
      omega

/-- A table: how many slots, their states (0 free, 1 taken, 2 retired), their generations. -/
structure Tb where
  n : Nat
  s : Nat → Nat
  g : Nat → Nat
structure Tb.Ok (T : Tb) : Prop where
  lo : 1 ≤ T.n
  hi : T.n ≤ 256
  st : ∀ i, T.s i ≤ 2
  gm : ∀ i, T.g i ≤ 4294967295
  g1 : ∀ i, i < T.n → 1 ≤ T.g i
def Tb.free (T : Tb) : List Nat := sel T.s 0 T.n
def Tb.held (T : Tb) : List Nat := sel T.s 1 T.n
def Tb.gone (T : Tb) : List Nat := sel T.s 2 T.n
/-- Slots with their generations. -/
def Tb.refs (T : Tb) (l : List Nat) : List (Nat × Nat) := l.map fun i => (i, T.g i)
def Tb.now (T : Tb) : List (Nat × Nat) := T.refs T.held
def Tb.took (T : Tb) (i : Nat) : Tb := ⟨T.n, put T.s i 1, T.g⟩
def Tb.gave (T : Tb) (i : Nat) : Tb := if T.g i = 4294967295 then ⟨T.n, put T.s i 2, T.g⟩ else ⟨T.n, put T.s i 0, put T.g i (T.g i + 1)⟩
def Tb.take (T : Tb) : Tb := match T.free with
  | [] => T
  | i :: _ => T.took i
def fresh (n g : Nat) : Tb := ⟨n, fun _ => 0, fun i => if i < n then g else 0⟩

theorem Tb.took_n (T : Tb) (i : Nat) : (T.took i).n = T.n := rfl
theorem Tb.gave_n (T : Tb) (i : Nat) : (T.gave i).n = T.n := by unfold gave; split <;> rfl
theorem Tb.take_n (T : Tb) : T.take.n = T.n := by unfold take; split <;> rfl
theorem fresh_ok {n g : Nat} (h1 : 1 ≤ n) (h2 : n ≤ 256) (h3 : 1 ≤ g) (h4 : g ≤ 4294967295) : (fresh n g).Ok :=
  ⟨h1, h2, fun _ => by simp [fresh], fun i => by simp only [fresh]; split <;> omega, fun i hi => by simp only [fresh] at hi ⊢; rw [if_pos hi]; exact h3⟩
theorem Tb.Ok.took {T : Tb} (h : T.Ok) (i : Nat) : (T.took i).Ok :=
  ⟨h.lo, h.hi, fun k => by have := h.st k; simp only [Tb.took, put]; split <;> omega, h.gm, h.g1⟩
theorem Tb.Ok.gave {T : Tb} (h : T.Ok) (i : Nat) : (T.gave i).Ok := by
  have hg := h.gm i
  unfold Tb.gave
  split
  · exact ⟨h.lo, h.hi, fun k => by have := h.st k; simp only [put]; split <;> omega, h.gm, h.g1⟩
  · exact ⟨h.lo, h.hi, fun k => by have := h.st k; simp only [put]; split <;> omega, fun k => by have := h.gm k; simp only [put]; split <;> omega, fun k hk => by have := h.g1 k hk; simp only [put]; split <;> omega⟩
theorem Tb.Ok.take {T : Tb} (h : T.Ok) : T.take.Ok := by
  unfold Tb.take
  split
  · exact h
  · exact h.took _
theorem Tb.free_lt {T : Tb} {i : Nat} {r : List Nat} (h : T.free = i :: r) : i < T.n ∧ T.s i = 0 := mem_sel.1 (show i ∈ sel T.s 0 T.n from by unfold Tb.free at h; rw [h]; simp)
theorem Tb.held_len (T : Tb) (h : T.Ok) : T.held.length ≤ 256 := by have := sel_len T.s 1 T.n; have := h.hi; unfold Tb.held; omega
theorem Tb.held_at {T : Tb} {j i : Nat} (h : T.held[j]? = some i) : i < T.n ∧ T.s i = 1 := mem_sel.1 (List.mem_of_getElem? h)
theorem Tb.now_len (T : Tb) : T.now.length = T.held.length := by simp [Tb.now, Tb.refs]
theorem Tb.now_at {T : Tb} {j : Nat} {r : Nat × Nat} (h : T.now[j]? = some r) : r.1 < T.n ∧ T.s r.1 = 1 ∧ r.2 = T.g r.1 := by
  simp only [Tb.now, Tb.refs, List.getElem?_map, Option.map_eq_some_iff] at h
  obtain ⟨i, h1, rfl⟩ := h
  exact ⟨(Tb.held_at h1).1, (Tb.held_at h1).2, rfl⟩
theorem Tb.mem_now {T : Tb} {r : Nat × Nat} : r ∈ T.now ↔ r.1 < T.n ∧ T.s r.1 = 1 ∧ T.g r.1 = r.2 := by
  obtain ⟨a, b⟩ := r
  simp only [Tb.now, Tb.refs, List.mem_map, Tb.held, mem_sel, Prod.mk.injEq]
  constructor
  · rintro ⟨i, ⟨h1, h2⟩, rfl, rfl⟩; exact ⟨h1, h2, rfl⟩
  · rintro ⟨h1, h2, h3⟩; exact ⟨a, ⟨h1, h2⟩, rfl, h3⟩

/-- What Check and Give answer. -/
def Tb.chk (T : Tb) (i g : Int) : Int := if i < 0 ∨ (T.n : Int) ≤ i then 3 else if T.s i.toNat = 1 ∧ (T.g i.toNat : Int) = g then 0 else 7
def Tb.given (T : Tb) (i g : Int) : Tb := if T.chk i g = 0 then T.gave i.toNat else T
theorem Tb.chk_held {T : Tb} {i : Nat} (h1 : i < T.n) (h2 : T.s i = 1) : T.chk (i : Int) (T.g i : Int) = 0 := by
  have e1 : ¬ ((i : Int) < 0 ∨ (T.n : Int) ≤ (i : Int)) := by omega
  unfold Tb.chk
  rw [if_neg e1, if_pos ⟨by simpa using h2, by simp⟩]
theorem Tb.chk_zero {T : Tb} {i g : Int} (h : T.chk i g = 0) : 0 ≤ i ∧ i < T.n ∧ T.s i.toNat = 1 ∧ (T.g i.toNat : Int) = g := by
  unfold Tb.chk at h
  split at h
  · omega
  · split at h
    · rename_i h1 h2; exact ⟨by omega, by omega, h2.1, h2.2⟩
    · omega
theorem Tb.Ok.given {T : Tb} (h : T.Ok) (i g : Int) : (T.given i g).Ok := by unfold Tb.given; split; exact h.gave _; exact h
theorem Tb.given_n (T : Tb) (i g : Int) : (T.given i g).n = T.n := by unfold Tb.given; split; exact T.gave_n _; rfl
theorem Tb.given_held {T : Tb} {i : Nat} (h1 : i < T.n) (h2 : T.s i = 1) : T.given (i : Int) (T.g i : Int) = T.gave i := by
  unfold Tb.given; rw [if_pos (Tb.chk_held h1 h2)]; rfl

/-! ### runs of turns -/
/-- A turn: a take, or giving back one of those that are taken. -/
def Tb.turn (T : Tb) (give : Bool) (q : Nat) : Tb := if give = true then (match T.held[q % T.held.length]? with | some i => T.gave i | none => T) else T.take
/-- What a turn takes. -/
def Tb.gets (T : Tb) (give : Bool) : List (Nat × Nat) := if give = true then [] else (match T.free with | [] => [] | i :: _ => [(i, T.g i)])
def runT (T : Tb) (c : Nat → Bool) (q : Nat → Nat) : Nat → Tb
  | 0 => T
  | k + 1 => (runT T c q k).turn (c k) (q k)
def runL (T : Tb) (c : Nat → Bool) (q : Nat → Nat) : Nat → List (Nat × Nat)
  | 0 => []
  | k + 1 => runL T c q k ++ (runT T c q k).gets (c k)
theorem Tb.Ok.turn {T : Tb} (h : T.Ok) (c : Bool) (q : Nat) : (T.turn c q).Ok := by
  unfold Tb.turn
  split
  · split
    · exact h.gave _
    · exact h
  · exact h.take
theorem Tb.turn_n (T : Tb) (c : Bool) (q : Nat) : (T.turn c q).n = T.n := by
  unfold Tb.turn
  split
  · split
    · exact T.gave_n _
    · rfl
  · exact T.take_n
theorem runT_ok {T : Tb} (h : T.Ok) (c : Nat → Bool) (q : Nat → Nat) : ∀ k, (runT T c q k).Ok
  | 0 => h
  | k + 1 => (runT_ok h c q k).turn _ _
theorem runT_n (T : Tb) (c : Nat → Bool) (q : Nat → Nat) : ∀ k, (runT T c q k).n = T.n
  | 0 => rfl
  | k + 1 => by unfold runT; rw [Tb.turn_n, runT_n T c q k]
theorem runL_len (T : Tb) (c : Nat → Bool) (q : Nat → Nat) : ∀ k, (runL T c q k).length ≤ k
  | 0 => by simp [runL]
  | k + 1 => by
    have := runL_len T c q k
    unfold runL Tb.gets
    split
    · simp; omega
    · split <;> simp <;> omega
/-- What was taken: in range, in a generation of that slot that is over, or is this one and not free. -/
def Tb.Was (T : Tb) (r : Nat × Nat) : Prop := r.1 < T.n ∧ (r.2 < T.g r.1 ∨ r.2 = T.g r.1 ∧ T.s r.1 ≠ 0)
theorem Tb.Was.gave {T : Tb} {r : Nat × Nat} (h : T.Was r) {i : Nat} (_hi : T.s i = 1) : (T.gave i).Was r := by
  obtain ⟨h1, h2⟩ := h
  refine ⟨by rw [T.gave_n]; exact h1, ?_⟩
  unfold Tb.gave
  split
  · by_cases e : r.1 = i
    · rcases h2 with h2 | h2
      · exact .inl h2
      · exact .inr ⟨h2.1, by simp [put, e]⟩
    · rcases h2 with h2 | h2
      · exact .inl h2
      · exact .inr ⟨h2.1, by simp only []; rw [put_other e]; exact h2.2⟩
  · by_cases e : r.1 = i
    · left; simp only []; rw [e, put_same]; rw [e] at h2; omega
    · simp only []; rw [put_other e, put_other e]; exact h2
theorem Tb.Was.took {T : Tb} {r : Nat × Nat} (h : T.Was r) (i : Nat) : (T.took i).Was r := by
  obtain ⟨h1, h2⟩ := h
  refine ⟨h1, ?_⟩
  rcases h2 with h2 | h2
  · exact .inl h2
  · refine .inr ⟨h2.1, ?_⟩
    by_cases e : r.1 = i
    · simp [Tb.took, e, put_same]
    · simp only [Tb.took]; rw [put_other e]; exact h2.2
theorem turn_was {T : Tb} {L : List (Nat × Nat)} (hL : ∀ r ∈ L, T.Was r) (hd : L.Nodup) (c : Bool) (q : Nat) : (∀ r ∈ L ++ T.gets c, (T.turn c q).Was r) ∧ (L ++ T.gets c).Nodup := by
  unfold Tb.gets Tb.turn
  split
  · rw [List.append_nil]
    refine ⟨?_, hd⟩
    split
    · rename_i i hi
      exact fun r hr => (hL r hr).gave (Tb.held_at hi).2
    · exact hL
  · unfold Tb.take
    split
    · rw [List.append_nil]; exact ⟨hL, hd⟩
    · rename_i i t hf
      obtain ⟨f1, f2⟩ := Tb.free_lt hf
      refine ⟨fun r hr => ?_, ?_⟩
      · rcases List.mem_append.1 hr with hr | hr
        · exact (hL r hr).took i
        · simp only [List.mem_singleton] at hr
          subst hr
          exact ⟨f1, .inr ⟨rfl, by simp [Tb.took, put_same]⟩⟩
      · rw [List.nodup_append]
        refine ⟨hd, by simp, fun a ha b hb => ?_⟩
        simp only [List.mem_singleton] at hb
        subst hb
        rintro rfl
        obtain ⟨_, h2⟩ := hL _ ha
        simp only [f2] at h2
        omega
theorem run_was (T : Tb) (c : Nat → Bool) (q : Nat → Nat) : ∀ k, (∀ r ∈ runL T c q k, (runT T c q k).Was r) ∧ (runL T c q k).Nodup
  | 0 => by simp [runL]
  | k + 1 => turn_was (run_was T c q k).1 (run_was T c q k).2 _ _
/-- The first generation of each slot is not above what it has now, and retired slots stay. -/
theorem turn_grows (T : Tb) (c : Bool) (q i : Nat) : T.g i ≤ (T.turn c q).g i := by
  unfold Tb.turn Tb.take Tb.gave Tb.took
  split
  · split
    · split
      · exact Nat.le_refl _
      · simp only [put]; split
        · rename_i h; subst h; omega
        · exact Nat.le_refl _
    · exact Nat.le_refl _
  · split <;> exact Nat.le_refl _
theorem gone_grows {T : Tb} {i v : Nat} (hi : i < T.n) (h2 : T.s i ≠ 2) : (sel T.s 2 T.n).length ≤ (sel (put T.s i v) 2 T.n).length := by
  have := sel_put_len (f := T.s) (v := 2) (u := v) hi
  rw [if_neg h2] at this
  omega
end Go.Proofs.YtpinmiplefidpaaGreatDoor

namespace Go.Proofs.YtpinmiplefidpaaGreatDoor
open Go.RowKit

def Bk (w : World) (g : Nat) (t : TypeId) (cs : Array Value) : Prop := w.heap[g]? = some (.cells cs t (0, 0))
section
variable {w w' : World} {g : Nat} {t : TypeId} {cs : Array Value}
theorem Bk.lt (h : Bk w g t cs) : g < w.heap.size := (Array.getElem?_eq_some_iff.1 h).1
theorem Bk.cell (h : Bk w g t cs) (i : Nat) : w.cell? ⟨g, i, none⟩ = cs[i]? := cell_of_row w g i cs t (0, 0) h
theorem Bk.frozen (h : Bk w g t cs) (i : Nat) : w.frozen? ⟨g, i, none⟩ = false := by
  unfold Bk at h
  simp [World.frozen?, h]
theorem Bk.new (w : World) (t : TypeId) (cs : Array Value) : Bk (w.alloc (.cells cs t)) w.heap.size t cs := by
  unfold Bk World.alloc; simp
theorem Bk.same (h : Bk w g t cs) (e : w'.heap[g]? = w.heap[g]?) : Bk w' g t cs := e.trans h
theorem Bk.put (h : Bk w g t cs) (i : Nat) (u : Value) : Bk (w.setCell ⟨g, i, none⟩ u) g t (cs.setIfInBounds i u) := by
  unfold Bk at h ⊢
  simp [World.setCell, Array.getElem?_modify, h]
theorem Bk.uniq {t' : TypeId} {cs' : Array Value} (h : Bk w g t cs) (h' : Bk w g t' cs') : t = t' ∧ cs = cs' := by
  unfold Bk at h h'
  rw [h] at h'
  injection h' with h'
  injection h' with h1 h2
  exact ⟨h2, h1⟩
end

/-- Of the blocks that were there w' has turned those alone that S names. -/
structure Kept (S : Nat → Prop) (w w' : World) : Prop where
  os : w'.os = w.os
  tape : w'.tape = w.tape
  output : w'.output = w.output
  size : w.heap.size ≤ w'.heap.size
  block : ∀ k, k < w.heap.size → ¬ S k → w'.heap[k]? = w.heap[k]?
section
variable {S T : Nat → Prop} {a b c w : World}
theorem Kept.refl (S : Nat → Prop) (w : World) : Kept S w w := ⟨rfl, rfl, rfl, Nat.le_refl _, fun _ _ _ => rfl⟩
theorem Kept.trans (h : Kept S a b) (k : Kept S b c) : Kept S a c :=
  ⟨k.os.trans h.os, k.tape.trans h.tape, k.output.trans h.output, Nat.le_trans h.size k.size, fun i hi hs => (k.block i (Nat.lt_of_lt_of_le hi h.size) hs).trans (h.block i hi hs)⟩
theorem Kept.mono (h : Kept S a b) (e : ∀ k, k < a.heap.size → S k → T k) : Kept T a b := ⟨h.os, h.tape, h.output, h.size, fun k hk hs => h.block k hk fun x => hs (e k hk x)⟩
theorem Kept.drewN (h : Kept S a w) (n : Nat) : Kept S a (w.drewN n) := ⟨h.os, h.tape, h.output, h.size, h.block⟩
theorem Kept.drew (h : Kept S a w) : Kept S a w.drew := ⟨h.os, h.tape, h.output, h.size, h.block⟩
theorem Kept.alloc (h : Kept S a w) (o : Obj) : Kept S a (w.alloc o) :=
  h.trans ⟨rfl, rfl, rfl, by simp, fun k hk _ => Below.heap_alloc _ _ _ hk⟩
theorem Kept.put (h : Kept S a w) {p : Addr} (hp : a.heap.size ≤ p.block ∨ S p.block) (u : Value) : Kept S a (w.setCell p u) :=
  ⟨h.os, h.tape, h.output, by simp; exact h.size, fun k hk hs => (Below.heap_setCell _ _ _ _ (by rcases hp with hp | hp; omega; rintro rfl; exact hs hp)).trans (h.block k hk hs)⟩
theorem Kept.below (h : Kept S a b) {B : Nat} (hB : B ≤ a.heap.size) (hs : ∀ k, S k → B ≤ k) : Below B a b :=
  ⟨h.os, h.tape, h.output, h.size, fun k hk => h.block k (by omega) fun x => by have := hs k x; omega⟩
theorem Kept.of_below (h : Below a.heap.size a b) : Kept S a b := ⟨h.os, h.tape, h.output, h.size, fun k hk _ => h.block k hk⟩
theorem Bk.kept {g : Nat} {t : TypeId} {cs : Array Value} (h : Bk a g t cs) (k : Kept S a b) (hg : ¬ S g) : Bk b g t cs := (k.block g h.lt hg).trans h
theorem Bk.below {g : Nat} {t : TypeId} {cs : Array Value} (h : Bk a g t cs) (k : Below a.heap.size a b) : Bk b g t cs := (k.block g h.lt).trans h
end

theorem Kept.put1 {g : Nat} {a w : World} (h : Kept (· = g) a w) (i : Nat) (u : Value) : Kept (· = g) a (w.setCell ⟨g, i, none⟩ u) := h.put (p := ⟨g, i, none⟩) (.inr rfl) u

/-! ### the program's table -/
/-- What the cell at j holds. -/
def tcell (T : Tb) (j : Nat) : Value := if j = 0 then .int .i64 T.n else if j % 2 = 1 then .int .i64 (T.s (j / 2)) else .int .u32 (T.g (j / 2 - 1))
def tcells (T : Tb) : Array Value := ((List.range 513).map (tcell T)).toArray
theorem tcells_size (T : Tb) : (tcells T).size = 513 := by simp [tcells]
theorem tcells_at (T : Tb) {j : Nat} (h : j < 513) : (tcells T)[j]? = some (tcell T j) := by simp [tcells, h]
theorem tcell_n (T : Tb) : tcell T 0 = .int .i64 T.n := rfl
theorem tcell_s (T : Tb) (i : Nat) : tcell T (1 + i * 2) = .int .i64 (T.s i) := by
  have h1 : 1 + i * 2 ≠ 0 := by omega
  have h2 : (1 + i * 2) % 2 = 1 := by omega
  have h3 : (1 + i * 2) / 2 = i := by omega
  simp only [tcell, h1, h2, h3, if_true, if_false]
theorem tcell_g (T : Tb) (i : Nat) : tcell T (1 + i * 2 + 1) = .int .u32 (T.g i) := by
  have h1 : 1 + i * 2 + 1 ≠ 0 := by omega
  have h2 : ¬ (1 + i * 2 + 1) % 2 = 1 := by omega
  have h3 : (1 + i * 2 + 1) / 2 - 1 = i := by omega
  simp only [tcell, h1, h2, h3, if_false]
theorem tcells_ext {T U : Tb} {k : Nat} {v : Value} (h : ∀ j, j < 513 → tcell U j = if k = j then v else tcell T j) : (tcells T).setIfInBounds k v = tcells U := by
  refine Array.ext_getElem? fun j => ?_
  rw [Array.getElem?_setIfInBounds]
  by_cases hj : j < 513
  · rw [tcells_at U hj, h j hj, tcells_at T hj, tcells_size]
    by_cases e : k = j
    · subst e; simp [hj]
    · simp [e]
  · have h1 : (tcells U)[j]? = none := by rw [Array.getElem?_eq_none]; rw [tcells_size]; omega
    have h2 : (tcells T)[j]? = none := by rw [Array.getElem?_eq_none]; rw [tcells_size]; omega
    rw [h1, h2, tcells_size]
    by_cases e : k = j
    · rw [if_pos e, if_neg (by omega)]
    · rw [if_neg e]
theorem tcells_put_s (T : Tb) (i v : Nat) : (tcells T).setIfInBounds (1 + i * 2) (.int .i64 v) = tcells ⟨T.n, put T.s i v, T.g⟩ := by
  refine tcells_ext fun j hj => ?_
  by_cases e : 1 + i * 2 = j
  · subst e; rw [if_pos rfl, tcell_s]; simp [put_same]
  · rw [if_neg e]
    unfold tcell
    by_cases h0 : j = 0
    · rw [if_pos h0, if_pos h0]
    · rw [if_neg h0, if_neg h0]
      by_cases h1 : j % 2 = 1
      · rw [if_pos h1, if_pos h1]; simp only []; rw [put_other (by omega)]
      · rw [if_neg h1, if_neg h1]
theorem tcells_put_g (T : Tb) (i v : Nat) : (tcells T).setIfInBounds (1 + i * 2 + 1) (.int .u32 v) = tcells ⟨T.n, T.s, put T.g i v⟩ := by
  refine tcells_ext fun j hj => ?_
  by_cases e : 1 + i * 2 + 1 = j
  · subst e; rw [if_pos rfl, tcell_g]; simp [put_same]
  · rw [if_neg e]
    unfold tcell
    by_cases h0 : j = 0
    · rw [if_pos h0, if_pos h0]
    · rw [if_neg h0, if_neg h0]
      by_cases h1 : j % 2 = 1
      · rw [if_pos h1, if_pos h1]
      · rw [if_neg h1, if_neg h1]; simp only []; rw [put_other (by omega)]

structure TabW (w : World) (b : Nat) (T : Tb) : Prop where
  ok : T.Ok
  bk : Bk w b 210 (tcells T)
section
variable {w w' : World} {b : Nat} {T : Tb}
theorem TabW.bt (h : TabW w b T) : b < w.heap.size := h.bk.lt
theorem TabW.same (h : TabW w b T) (e : w'.heap[b]? = w.heap[b]?) : TabW w' b T := ⟨h.ok, h.bk.same e⟩
theorem TabW.kept {S : Nat → Prop} (h : TabW w b T) (k : Kept S w w') (hb : ¬ S b) : TabW w' b T := ⟨h.ok, h.bk.kept k hb⟩
theorem TabW.below (h : TabW w b T) (k : Below w.heap.size w w') : TabW w' b T := ⟨h.ok, h.bk.below k⟩
theorem TabW.drewN (h : TabW w b T) (q : Nat) : TabW (w.drewN q) b T := h.same rfl
theorem TabW.c0 (h : TabW w b T) : w.cell? ⟨b, 0, none⟩ = some (.int .i64 T.n) := by rw [h.bk.cell, tcells_at T (by omega), tcell_n]
theorem TabW.cs (h : TabW w b T) {i : Nat} (hi : i < 256) : w.cell? ⟨b, 1 + i * 2, none⟩ = some (.int .i64 (T.s i)) := by rw [h.bk.cell, tcells_at T (by omega), tcell_s]
theorem TabW.cg (h : TabW w b T) {i : Nat} (hi : i < 256) : w.cell? ⟨b, 1 + i * 2 + 1, none⟩ = some (.int .u32 (T.g i)) := by rw [h.bk.cell, tcells_at T (by omega), tcell_g]
theorem TabW.fz (h : TabW w b T) (i : Nat) : w.frozen? ⟨b, i, none⟩ = false := h.bk.frozen i
end

/-! ### the document's table -/
structure RefW (w : World) (c d : Nat) (T : Tb) : Prop where
  ok : T.Ok
  at_ : ∃ (cap : Nat) (cur : Array Value), Bk w c 213 #[.slice (some ⟨d, 0, none⟩) T.n cap] ∧ Bk w d 215 cur ∧ cur.size = cap * 2 ∧ T.n ≤ cap ∧ cap ≤ maxLen ∧ ∀ i, i < T.n → cur[i * 2]? = some (.int .i64 (T.s i)) ∧ cur[i * 2 + 1]? = some (.int .u32 (T.g i))
section
variable {w w' : World} {c d : Nat} {T : Tb}
theorem RefW.ct (h : RefW w c d T) : c < w.heap.size := by obtain ⟨_, _, h1, _⟩ := h.at_; exact h1.lt
theorem RefW.dt (h : RefW w c d T) : d < w.heap.size := by obtain ⟨_, _, _, h1, _⟩ := h.at_; exact h1.lt
theorem RefW.ne (h : RefW w c d T) : c ≠ d := by
  obtain ⟨_, _, h1, h2, _⟩ := h.at_
  rintro rfl
  exact absurd (h1.uniq h2).1 (by decide)
theorem RefW.same (h : RefW w c d T) (e1 : w'.heap[c]? = w.heap[c]?) (e2 : w'.heap[d]? = w.heap[d]?) : RefW w' c d T :=
  ⟨h.ok, by obtain ⟨cap, cur, h1, h2, hr⟩ := h.at_; exact ⟨cap, cur, h1.same e1, h2.same e2, hr⟩⟩
theorem RefW.kept {S : Nat → Prop} (h : RefW w c d T) (k : Kept S w w') (hc : ¬ S c) (hd : ¬ S d) : RefW w' c d T := h.same (k.block c h.ct hc) (k.block d h.dt hd)
theorem RefW.below (h : RefW w c d T) (k : Below w.heap.size w w') : RefW w' c d T := h.same (k.block c h.ct) (k.block d h.dt)
theorem RefW.drewN (h : RefW w c d T) (q : Nat) : RefW (w.drewN q) c d T := h.same rfl rfl
theorem RefW.c0 (h : RefW w c d T) : ∃ cap, w.cell? ⟨c, 0, none⟩ = some (.slice (some ⟨d, 0, none⟩) T.n cap) ∧ T.n ≤ cap ∧ cap ≤ maxLen := by obtain ⟨cap, _, h1, _, _, h2, h3, _⟩ := h.at_; exact ⟨cap, h1.cell 0, h2, h3⟩
theorem RefW.cs (h : RefW w c d T) {i : Nat} (hi : i < T.n) : w.cell? ⟨d, i * 2, none⟩ = some (.int .i64 (T.s i)) := by obtain ⟨_, cur, _, h1, _, _, _, h2⟩ := h.at_; rw [h1.cell]; exact (h2 i hi).1
theorem RefW.cg (h : RefW w c d T) {i : Nat} (hi : i < T.n) : w.cell? ⟨d, i * 2 + 1, none⟩ = some (.int .u32 (T.g i)) := by obtain ⟨_, cur, _, h1, _, _, _, h2⟩ := h.at_; rw [h1.cell]; exact (h2 i hi).2
theorem RefW.fz (h : RefW w c d T) (i : Nat) : w.frozen? ⟨d, i, none⟩ = false := by obtain ⟨_, cur, _, h1, _⟩ := h.at_; exact h1.frozen i
theorem RefW.put_s (h : RefW w c d T) {i v : Nat} (hi : i < T.n) (ho : Tb.Ok ⟨T.n, put T.s i v, T.g⟩) : RefW (w.setCell ⟨d, i * 2, none⟩ (.int .i64 v)) c d ⟨T.n, put T.s i v, T.g⟩ := by
  have hne := h.ne
  obtain ⟨cap, cur, h1, h2, h3, h4, h5, h6⟩ := h.at_
  refine ⟨ho, cap, cur.setIfInBounds (i * 2) (.int .i64 v), h1.same (Below.heap_setCell _ _ _ _ hne), h2.put _ _, by simpa using h3, h4, h5, fun k hk => ⟨?_, ?_⟩⟩
  · rw [Array.getElem?_setIfInBounds]
    by_cases e : i = k
    · subst e; rw [if_pos rfl, if_pos (by omega)]; simp [put_same]
    · rw [if_neg (by omega), (h6 k hk).1]; simp only []; rw [put_other (by omega)]
  · rw [Array.getElem?_setIfInBounds, if_neg (by omega)]; exact (h6 k hk).2
theorem RefW.put_g (h : RefW w c d T) {i v : Nat} (hi : i < T.n) (ho : Tb.Ok ⟨T.n, T.s, put T.g i v⟩) : RefW (w.setCell ⟨d, i * 2 + 1, none⟩ (.int .u32 v)) c d ⟨T.n, T.s, put T.g i v⟩ := by
  have hne := h.ne
  obtain ⟨cap, cur, h1, h2, h3, h4, h5, h6⟩ := h.at_
  refine ⟨ho, cap, cur.setIfInBounds (i * 2 + 1) (.int .u32 v), h1.same (Below.heap_setCell _ _ _ _ hne), h2.put _ _, by simpa using h3, h4, h5, fun k hk => ⟨?_, ?_⟩⟩
  · rw [Array.getElem?_setIfInBounds, if_neg (by omega)]; exact (h6 k hk).1
  · rw [Array.getElem?_setIfInBounds]
    by_cases e : i = k
    · subst e; rw [if_pos rfl, if_pos (by omega)]; simp [put_same]
    · rw [if_neg (by omega), (h6 k hk).2]; simp only []; rw [put_other (by omega)]
end
/-- A table that New or Copy did not make: nil, or the zero one. -/
def zeroT : Tb := ⟨0, fun _ => 0, fun _ => 0⟩
def Inv (w : World) (v : Option Addr) : Prop := v = none ∨ ∃ b, v = some ⟨b, 0, none⟩ ∧ Bk w b 210 (tcells zeroT)
theorem Inv.below {w w' : World} {v : Option Addr} (h : Inv w v) (hb : Below w.heap.size w w') : Inv w' v := by
  rcases h with rfl | ⟨b, rfl, h⟩
  · exact .inl rfl
  · exact .inr ⟨b, rfl, h.below hb⟩
/-- A list of slots with their generations, in a slice. -/
def pairs (l : List (Nat × Nat)) : List Value := l.flatMap fun r => [.int .i64 r.1, .int .u32 r.2]
end Go.Proofs.YtpinmiplefidpaaGreatDoor

namespace Go.Proofs.YtpinmiplefidpaaGreatDoor
open Go.RowKit

set_option maxHeartbeats 400000 in
theorem check_ok (g : Int) (w : World) (h1 : 1 ≤ g) (h2 : g ≤ 4294967295) :
    Calls Tryz.prog 50 #[.int .u32 g] w fun e w' => e = .returned (.int .i64 0) ∧ w = w' := by
  have hz : (g == 0) = false := by rw [beq_eq_false_iff_ne]; omega
  go_enter Tryz.func50, Tryz.ntmps50
  go_wp2
  go_ret
  exact ⟨rfl, rfl⟩
set_option maxHeartbeats 400000 in
theorem check_zero (w : World) :
    Calls Tryz.prog 50 #[.int .u32 0] w fun e w' => e = .returned (.int .i64 2) ∧ w = w' := by
  go_enter Tryz.func50, Tryz.ntmps50
  go_wp2
  go_ret
  exact ⟨rfl, rfl⟩

theorem bcell {W w1 : World} {n : Nat} (hb : Below n W w1) : (∀ b o, b < n → w1.cell? ⟨b, o, none⟩ = W.cell? ⟨b, o, none⟩) ∧ (∀ b o, b < n → w1.frozen? ⟨b, o, none⟩ = W.frozen? ⟨b, o, none⟩) :=
  ⟨fun b o h => hb.cell (p := ⟨b, o, none⟩) h, fun b o h => hb.frozen (p := ⟨b, o, none⟩) h⟩

set_option maxHeartbeats 400000 in
theorem later_yes (g n : Int) (w : World) (b1 b2 : Nat) (hn : w.cell? ⟨b1, 0, none⟩ = some (.int .u64 n)) (hg : w.cell? ⟨b2, 0, none⟩ = some (.int .u32 g)) (h1 : 1 ≤ g) (h2 : g ≤ 4294967295) (h3 : 0 ≤ n) (h4 : n ≤ 4294967295 - g)
    (hb1 : b1 < w.heap.size) (hb2 : b2 < w.heap.size) :
    Calls Tryz.prog 199 #[.pointer (some ⟨b1, 0, none⟩), .pointer (some ⟨b2, 0, none⟩)] w fun e w' => e = .returned (.agg #[.int .u32 (g + n), .bool true]) ∧ Below w.heap.size w w' := by
  go_enter Tryz.func199, Tryz.ntmps199
  go_wp2
  exact bodyPost_ret (v := .agg #[.int .u32 (g + n), .bool true]) (by simp [results, Tryz.results199, go_sem]) rfl ⟨rfl, (Below.refl _ _).alloc (Nat.le_refl _) _⟩

set_option maxHeartbeats 400000 in
theorem later_no (g n : Int) (w : World) (b1 b2 : Nat) (hn : w.cell? ⟨b1, 0, none⟩ = some (.int .u64 n)) (hg : w.cell? ⟨b2, 0, none⟩ = some (.int .u32 g)) (h1 : 1 ≤ g) (h2 : g ≤ 4294967295) (h4 : 4294967295 - g < n)
    (hb1 : b1 < w.heap.size) (hb2 : b2 < w.heap.size) :
    Calls Tryz.prog 199 #[.pointer (some ⟨b1, 0, none⟩), .pointer (some ⟨b2, 0, none⟩)] w fun e w' => e = .returned (.agg #[.int .u32 0, .bool false]) ∧ Below w.heap.size w w' := by
  go_enter Tryz.func199, Tryz.ntmps199
  go_wp2
  exact bodyPost_ret (v := .agg #[.int .u32 0, .bool false]) (by simp [results, Tryz.results199, go_sem]) rfl ⟨rfl, (Below.refl _ _).alloc (Nat.le_refl _) _⟩

set_option maxHeartbeats 400000 in
theorem askLater_ok (g n x : Int) (b : Bool) (w : World) (b1 b2 b3 : Nat) (hn : w.cell? ⟨b1, 0, none⟩ = some (.int .u64 n)) (hg : w.cell? ⟨b2, 0, none⟩ = some (.int .u32 g)) (hs : w.cell? ⟨b3, 0, none⟩ = some (.int .u32 g)) (h1 : 1 ≤ g) (h2 : g ≤ 4294967295)
    (hb1 : b1 < w.heap.size) (hb2 : b2 < w.heap.size) (hb3 : b3 < w.heap.size)
    (hl : ∀ W : World, W.cell? ⟨b1, 0, none⟩ = some (.int .u64 n) → W.cell? ⟨b2, 0, none⟩ = some (.int .u32 g) → b1 < W.heap.size → b2 < W.heap.size → Calls Tryz.prog 199 #[.pointer (some ⟨b1, 0, none⟩), .pointer (some ⟨b2, 0, none⟩)] W fun e w' => e = .returned (.agg #[.int .u32 x, .bool b]) ∧ Below W.heap.size W w') :
    Calls Tryz.prog 198 #[.func (.func 199) #[] #[.pointer (some ⟨b1, 0, none⟩), .pointer (some ⟨b2, 0, none⟩)], .slice (some ⟨b3, 0, none⟩) 1 1] w fun e w' => e = .returned (.tuple #[.agg #[.int .u32 x, .bool b], .int .i64 0]) ∧ Below w.heap.size w w' := by
  have HL := Lib.hid hl
  clear hl
  go_enter Tryz.func198, Tryz.ntmps198
  go_wp2
  go_loop [12] (fun i => ∃ k : Nat, k ≤ 1 ∧ i = .int .i64 k) (fun i => 1 - (intOf i).toNat)
  case atStart => exact ⟨0, by omega, rfl⟩
  case round =>
    obtain ⟨k, hk, rfl⟩ := hrel
    by_cases hlt : k < 1
    · obtain rfl : k = 0 := by omega
      go_wp2_with (go_at_call 50; refine (check_ok _ _ h1 h2).mono ?_; rintro e w' ⟨rfl, rfl⟩)
      go_round
      case rel => exact ⟨1, by omega, by go_num⟩
      case measure => simp [intOf]
    · go_wp2_with fail
      refine (HL.out _ (by go_simp) (by go_simp) (by simp; omega) (by simp; omega)).mono ?_
      rintro e w1 ⟨rfl, hb⟩
      obtain ⟨hc, hf⟩ := bcell hb
      have hz : w.heap.size < w1.heap.size := by have := hb.size; simp at this; omega
      have hc0 : w1.cell? ⟨w.heap.size, 0, none⟩ = some (.int .u32 0) := by rw [hc _ _ (by simp)]; go_simp
      have hc1 : w1.cell? ⟨w.heap.size, 1, none⟩ = some (.bool false) := by rw [hc _ _ (by simp)]; go_simp
      have hf0 : w1.frozen? ⟨w.heap.size, 0, none⟩ = false := by rw [hf _ _ (by simp)]; go_simp
      have hf1 : w1.frozen? ⟨w.heap.size, 1, none⟩ = false := by rw [hf _ _ (by simp)]; go_simp
      clear hc hf
      go_wp2
      exact bodyPost_ret (v := .tuple #[.agg #[.int .u32 x, .bool b], .int .i64 0]) (by simp [results, Tryz.results198, go_sem, hc0, hc1]) rfl ⟨rfl, ((((Below.refl _ _).alloc (Nat.le_refl _) _).trans (hb.mono (by simp))).setCell (by simp) _).setCell (by simp) _⟩

set_option maxHeartbeats 400000 in
theorem askLater_zero (w : World) (q : Value) (b3 : Nat) (hs : w.cell? ⟨b3, 0, none⟩ = some (.int .u32 0)) (hb3 : b3 < w.heap.size) :
    Calls Tryz.prog 198 #[q, .slice (some ⟨b3, 0, none⟩) 1 1] w fun e w' => e = .returned (.tuple #[.agg #[.int .u32 0, .bool false], .int .i64 2]) ∧ Below w.heap.size w w' := by
  go_enter Tryz.func198, Tryz.ntmps198
  go_wp2
  go_loop [12] (fun i => i = .int .i64 0) (fun i => 1 - (intOf i).toNat)
  case atStart => rfl
  case round =>
    obtain rfl := hrel
    go_wp2_with (go_at_call 50; refine (check_zero _).mono ?_; rintro e w' ⟨rfl, rfl⟩)
    exact bodyPost_ret (v := .tuple #[.agg #[.int .u32 0, .bool false], .int .i64 2]) (by simp [results, Tryz.results198, go_sem]) rfl ⟨rfl, ((Below.refl _ _).alloc (Nat.le_refl _) _).alloc (by simp) _⟩

set_option maxHeartbeats 400000 in
theorem after_any (g n x : Int) (b : Bool) (w : World) (h1 : 1 ≤ g) (h2 : g ≤ 4294967295)
    (hl : ∀ (W : World) (b1 b2 : Nat), W.cell? ⟨b1, 0, none⟩ = some (.int .u64 n) → W.cell? ⟨b2, 0, none⟩ = some (.int .u32 g) → b1 < W.heap.size → b2 < W.heap.size → Calls Tryz.prog 199 #[.pointer (some ⟨b1, 0, none⟩), .pointer (some ⟨b2, 0, none⟩)] W fun e w' => e = .returned (.agg #[.int .u32 x, .bool b]) ∧ Below W.heap.size W w') :
    Calls Tryz.prog 197 #[.int .u32 g, .int .u64 n] w fun e w' => e = .returned (.tuple #[.int .u32 x, .bool b, .int .i64 0]) ∧ Below w.heap.size w w' := by
  have hmf : ∀ (fn : Fn) (first cap : Array Value) (w : World), (Instr.makeFunc fn first cap).run Tryz.prog w = .ok (.func fn first cap) w := fun _ _ _ _ => rfl
  have HL := Lib.hid hl
  clear hl
  go_enter Tryz.func197, Tryz.ntmps197
  go_wp2_with fail
  refine (askLater_ok g n x b _ _ _ _ (by go_simp) (by go_simp) (by go_simp) h1 h2 (by simp) (by simp; omega) (by simp) (fun W => HL.out W _ _)).mono ?_
  rintro e w1 ⟨rfl, hb⟩
  have hz : w.heap.size + 1 + 1 < w1.heap.size := by have := hb.size; simp at this; omega
  go_wp2
  go_quiet (fail)
  go_wp2
  go_ret3
  refine ⟨rfl, below_drewN (((((Below.refl _ _).alloc (Nat.le_refl _) _).alloc (by simp) _).alloc (by simp; omega) _ |>.trans (hb.mono (by simp; omega))).alloc (by omega) _) _⟩

theorem after_yes (g n : Int) (w : World) (h1 : 1 ≤ g) (h2 : g ≤ 4294967295) (h3 : 0 ≤ n) (h4 : n ≤ 4294967295 - g) :
    Calls Tryz.prog 197 #[.int .u32 g, .int .u64 n] w fun e w' => e = .returned (.tuple #[.int .u32 (g + n), .bool true, .int .i64 0]) ∧ Below w.heap.size w w' :=
  after_any g n _ _ w h1 h2 fun W b1 b2 hn hg hb1 hb2 => later_yes g n W b1 b2 hn hg h1 h2 h3 h4 hb1 hb2
theorem after_no (g n : Int) (w : World) (h1 : 1 ≤ g) (h2 : g ≤ 4294967295) (h4 : 4294967295 - g < n) :
    Calls Tryz.prog 197 #[.int .u32 g, .int .u64 n] w fun e w' => e = .returned (.tuple #[.int .u32 0, .bool false, .int .i64 0]) ∧ Below w.heap.size w w' :=
  after_any g n _ _ w h1 h2 fun W b1 b2 hn hg hb1 hb2 => later_no g n W b1 b2 hn hg h1 h2 h4 hb1 hb2

set_option maxHeartbeats 400000 in
theorem after_zero (n : Int) (w : World) :
    Calls Tryz.prog 197 #[.int .u32 0, .int .u64 n] w fun e w' => e = .returned (.tuple #[.int .u32 0, .bool false, .int .i64 2]) ∧ Below w.heap.size w w' := by
  have hmf : ∀ (fn : Fn) (first cap : Array Value) (w : World), (Instr.makeFunc fn first cap).run Tryz.prog w = .ok (.func fn first cap) w := fun _ _ _ _ => rfl
  go_enter Tryz.func197, Tryz.ntmps197
  go_wp2_with fail
  refine (askLater_zero _ _ _ (by go_simp) (by simp)).mono ?_
  rintro e w1 ⟨rfl, hb⟩
  have hz : w.heap.size + 1 + 1 < w1.heap.size := by have := hb.size; simp at this; omega
  go_wp2
  go_quiet (fail)
  go_wp2
  go_ret3
  refine ⟨rfl, below_drewN (((((Below.refl _ _).alloc (Nat.le_refl _) _).alloc (by simp) _).alloc (by simp; omega) _ |>.trans (hb.mono (by simp; omega))).alloc (by omega) _) _⟩

set_option maxHeartbeats 400000 in
theorem next_yes (g : Int) (w : World) (h1 : 1 ≤ g) (h2 : g < 4294967295) :
    Calls Tryz.prog 196 #[.int .u32 g] w fun e w' => e = .returned (.tuple #[.int .u32 (g + 1), .bool true, .int .i64 0]) ∧ Below w.heap.size w w' := by
  go_enter Tryz.func196, Tryz.ntmps196
  go_wp2_with fail
  refine (after_yes g 1 _ h1 (by omega) (by omega) (by omega)).mono ?_
  rintro e w1 ⟨rfl, hb⟩
  go_wp2
  go_ret3
  exact ⟨rfl, hb⟩
set_option maxHeartbeats 400000 in
theorem next_last (w : World) :
    Calls Tryz.prog 196 #[.int .u32 4294967295] w fun e w' => e = .returned (.tuple #[.int .u32 0, .bool false, .int .i64 0]) ∧ Below w.heap.size w w' := by
  go_enter Tryz.func196, Tryz.ntmps196
  go_wp2_with fail
  refine (after_no _ 1 _ (by omega) (by omega) (by omega)).mono ?_
  rintro e w1 ⟨rfl, hb⟩
  go_wp2
  go_ret3
  exact ⟨rfl, hb⟩
set_option maxHeartbeats 400000 in
theorem next_zero (w : World) :
    Calls Tryz.prog 196 #[.int .u32 0] w fun e w' => e = .returned (.tuple #[.int .u32 0, .bool false, .int .i64 2]) ∧ Below w.heap.size w w' := by
  go_enter Tryz.func196, Tryz.ntmps196
  go_wp2_with fail
  refine (after_zero 1 _).mono ?_
  rintro e w1 ⟨rfl, hb⟩
  go_wp2
  go_ret3
  exact ⟨rfl, hb⟩
end Go.Proofs.YtpinmiplefidpaaGreatDoor

namespace Go.Proofs.YtpinmiplefidpaaGreatDoor
open Go.RowKit

theorem bel2 {w a b : World} (h : Below w.heap.size w a) (k : Below a.heap.size a b) : Below w.heap.size w b := h.trans (k.mono h.size)
theorem bel_drewN {B : Nat} {a w : World} (h : Below B a w) (n : Nat) : Below B a (w.drewN n) := ⟨h.os, h.tape, h.output, h.size, h.block⟩

theorem valid_nil (w : World) : Calls Tryz.prog 150 #[.pointer none] w fun e w' => e = .returned (.bool false) ∧ w = w' := by
  go_enter Tryz.func150, Tryz.ntmps150
  go_wp2
  go_ret
  exact ⟨rfl, rfl⟩
theorem valid_zero (b : Nat) (w : World) (h : Bk w b 210 (tcells zeroT)) : Calls Tryz.prog 150 #[.pointer (some ⟨b, 0, none⟩)] w fun e w' => e = .returned (.bool false) ∧ w = w' := by
  have hc : w.cell? ⟨b, 0, none⟩ = some (.int .i64 0) := by rw [h.cell, tcells_at _ (by omega)]; rfl
  clear h
  go_enter Tryz.func150, Tryz.ntmps150
  go_wp2
  go_ret
  exact ⟨rfl, rfl⟩
theorem valid_yes (b : Nat) (T : Tb) (w : World) (h : TabW w b T) : Calls Tryz.prog 150 #[.pointer (some ⟨b, 0, none⟩)] w fun e w' => e = .returned (.bool true) ∧ w = w' := by
  have hc := h.c0
  have hn : 0 < T.n := h.ok.lo
  clear h
  go_enter Tryz.func150, Tryz.ntmps150
  go_wp2
  go_ret
  exact ⟨rfl, rfl⟩
theorem valid_no (v : Option Addr) (w : World) (h : Inv w v) : Calls Tryz.prog 150 #[.pointer v] w fun e w' => e = .returned (.bool false) ∧ w = w' := by
  rcases h with rfl | ⟨b, rfl, h⟩
  · exact valid_nil w
  · exact valid_zero b w h

/-! ### at -/
theorem at_inv (v : Option Addr) (i : Int) (w : World) (h : Inv w v) : Calls Tryz.prog 149 #[.pointer v, .int .i64 i] w fun e w' => e = .returned (.tuple #[.pointer none, .int .i64 1]) ∧ w = w' := by
  have H := Lib.hid h
  clear h
  go_enter Tryz.func149, Tryz.ntmps149
  go_wp2_with (go_at_call 150; refine (valid_no _ _ H.out).mono ?_; rintro e w' ⟨rfl, rfl⟩)
  go_ret2
  exact ⟨rfl, rfl⟩
theorem at_out (b : Nat) (T : Tb) (i : Int) (w : World) (h : TabW w b T) (hi : i < 0 ∨ (T.n : Int) ≤ i) : Calls Tryz.prog 149 #[.pointer (some ⟨b, 0, none⟩), .int .i64 i] w fun e w' => e = .returned (.tuple #[.pointer none, .int .i64 3]) ∧ w = w' := by
  have H := Lib.hid h
  have hc := h.c0
  clear h
  by_cases h0 : i < 0
  all_goals
    first | have h1 : (T.n : Int) ≤ i := by omega | skip
    clear hi
    go_enter Tryz.func149, Tryz.ntmps149
    go_wp2_with (go_at_call 150; refine (valid_yes _ _ _ H.out).mono ?_; rintro e w' ⟨rfl, rfl⟩)
    go_ret2
    exact ⟨rfl, rfl⟩
theorem at_in (b : Nat) (T : Tb) (k : Nat) (w : World) (h : TabW w b T) (hk : k < T.n) : Calls Tryz.prog 149 #[.pointer (some ⟨b, 0, none⟩), .int .i64 k] w fun e w' => e = .returned (.tuple #[.pointer (some ⟨b, 1 + k * 2, none⟩), .int .i64 0]) ∧ w = w' := by
  have H := Lib.hid h
  have hc := h.c0
  have hn := h.ok.hi
  clear h
  go_enter Tryz.func149, Tryz.ntmps149
  go_wp2_with (go_at_call 150; refine (valid_yes _ _ _ H.out).mono ?_; rintro e w' ⟨rfl, rfl⟩)
  go_ret2
  exact ⟨rfl, rfl⟩

/-! ### held -/
theorem held_inv (v : Option Addr) (i g : Int) (w : World) (h : Inv w v) : Calls Tryz.prog 145 #[.pointer v, .agg #[.int .i64 i, .int .u32 g]] w fun e w' => e = .returned (.tuple #[.pointer none, .int .i64 1]) ∧ Below w.heap.size w w' := by
  have H := Lib.hid h
  clear h
  go_enter Tryz.func145, Tryz.ntmps145
  go_wp2_with fail
  refine (at_inv v i _ (H.out.below ((Below.refl _ w).alloc (Nat.le_refl _) _))).mono ?_
  rintro e w' ⟨rfl, rfl⟩
  go_wp2
  go_ret2
  exact ⟨rfl, (Below.refl _ w).alloc (Nat.le_refl _) _⟩
theorem held_out (b : Nat) (T : Tb) (i g : Int) (w : World) (h : TabW w b T) (hi : i < 0 ∨ (T.n : Int) ≤ i) : Calls Tryz.prog 145 #[.pointer (some ⟨b, 0, none⟩), .agg #[.int .i64 i, .int .u32 g]] w fun e w' => e = .returned (.tuple #[.pointer none, .int .i64 3]) ∧ Below w.heap.size w w' := by
  have H := Lib.hid h
  have HI := Lib.hid hi
  clear h hi
  go_enter Tryz.func145, Tryz.ntmps145
  go_wp2_with fail
  refine (at_out b T i _ (H.out.below ((Below.refl _ w).alloc (Nat.le_refl _) _)) HI.out).mono ?_
  rintro e w' ⟨rfl, rfl⟩
  go_wp2
  go_ret2
  exact ⟨rfl, (Below.refl _ w).alloc (Nat.le_refl _) _⟩
set_option maxHeartbeats 1000000 in
theorem held_stale (b : Nat) (T : Tb) (k : Nat) (g : Int) (w : World) (h : TabW w b T) (hk : k < T.n) (hs : T.s k = 1 → (T.g k : Int) ≠ g) : Calls Tryz.prog 145 #[.pointer (some ⟨b, 0, none⟩), .agg #[.int .i64 k, .int .u32 g]] w fun e w' => e = .returned (.tuple #[.pointer none, .int .i64 7]) ∧ Below w.heap.size w w' := by
  have HW := Lib.hid (h.below ((Below.refl _ w).alloc (Nat.le_refl _) (.cells #[.int .i64 k, .int .u32 g] 193)))
  have hn := h.ok.hi
  have hb := h.bt
  have hcs := h.cs (i := k) (by omega)
  have hcg := h.cg (i := k) (by omega)
  clear h
  generalize T.s k = x at *
  generalize T.g k = y at *
  by_cases hx : x = 1
  · have hy := hs hx
    subst hx
    have hy2 : ((y : Int) != g) = true := by simpa using hy
    clear hs hy
    go_enter Tryz.func145, Tryz.ntmps145
    go_wp2_with fail
    refine (at_in b T k _ HW.out hk).mono ?_
    rintro e w' ⟨rfl, rfl⟩
    go_wp2
    go_quiet (fail)
    go_wp2
    go_ret2
    exact ⟨rfl, bel_drewN ((Below.refl _ w).alloc (Nat.le_refl _) _) _⟩
  · have hx2 : ((x : Int) != 1) = true := by simp; omega
    clear hs hx
    go_enter Tryz.func145, Tryz.ntmps145
    go_wp2_with fail
    refine (at_in b T k _ HW.out hk).mono ?_
    rintro e w' ⟨rfl, rfl⟩
    go_wp2
    go_quiet (fail)
    go_wp2
    go_ret2
    exact ⟨rfl, bel_drewN ((Below.refl _ w).alloc (Nat.le_refl _) _) _⟩
set_option maxHeartbeats 1000000 in
theorem held_ok (b : Nat) (T : Tb) (k : Nat) (g : Int) (w : World) (h : TabW w b T) (hk : k < T.n) (hs : T.s k = 1) (hg : (T.g k : Int) = g) : Calls Tryz.prog 145 #[.pointer (some ⟨b, 0, none⟩), .agg #[.int .i64 k, .int .u32 g]] w fun e w' => e = .returned (.tuple #[.pointer (some ⟨b, 1 + k * 2, none⟩), .int .i64 0]) ∧ Below w.heap.size w w' := by
  have HW := Lib.hid (h.below ((Below.refl _ w).alloc (Nat.le_refl _) (.cells #[.int .i64 k, .int .u32 g] 193)))
  have hn := h.ok.hi
  have hb := h.bt
  have hcs := h.cs (i := k) (by omega)
  have hcg := h.cg (i := k) (by omega)
  clear h
  rw [hs] at hcs
  rw [hg] at hcg
  have hy2 : (g != g) = false := by simp
  clear hs hg
  go_enter Tryz.func145, Tryz.ntmps145
  go_wp2_with fail
  refine (at_in b T k _ HW.out hk).mono ?_
  rintro e w' ⟨rfl, rfl⟩
  go_wp2
  go_quiet (fail)
  go_wp2
  go_ret2
  exact ⟨rfl, bel_drewN ((Below.refl _ w).alloc (Nat.le_refl _) _) _⟩

/-! ### release -/
theorem TabW.put_s {w : World} {b : Nat} {T : Tb} (h : TabW w b T) (i v : Nat) (ho : Tb.Ok ⟨T.n, put T.s i v, T.g⟩) : TabW (w.setCell ⟨b, 1 + i * 2, none⟩ (.int .i64 v)) b ⟨T.n, put T.s i v, T.g⟩ :=
  ⟨ho, by rw [← tcells_put_s]; exact h.bk.put _ _⟩
theorem TabW.put_sg {w : World} {b : Nat} {T : Tb} (h : TabW w b T) (i v u : Nat) (ho : Tb.Ok ⟨T.n, put T.s i v, put T.g i u⟩) : TabW ((w.setCell ⟨b, 1 + i * 2, none⟩ (.int .i64 v)).setCell ⟨b, 1 + i * 2 + 1, none⟩ (.int .u32 u)) b ⟨T.n, put T.s i v, put T.g i u⟩ := by
  refine ⟨ho, ?_⟩
  have h1 : Bk (w.setCell ⟨b, 1 + i * 2, none⟩ (.int .i64 v)) b 210 (tcells ⟨T.n, put T.s i v, T.g⟩) := by rw [← tcells_put_s]; exact h.bk.put _ _
  have h2 := h1.put (1 + i * 2 + 1) (.int .u32 u)
  rwa [tcells_put_g] at h2
def RelV (b : Nat) (T : Tb) (w : World) (e : Ending) (w' : World) : Prop := e = .returned (.tuple #[]) ∧ TabW w' b T ∧ Kept (· = b) w w'
set_option maxHeartbeats 1000000 in
theorem release_ok (b : Nat) (T : Tb) (k : Nat) (w : World) (h : TabW w b T) (hk : k < T.n) : Calls Tryz.prog 194 #[.pointer (some ⟨b, 1 + k * 2, none⟩)] w (RelV b (T.gave k) w) := by
  have hn := h.ok.hi
  have hg1 := h.ok.g1 k hk
  have hgm := h.ok.gm k
  have hb := h.bt
  have hok := h.ok.gave k
  have hcg := h.cg (i := k) (by omega)
  have H := Lib.hid h
  unfold Tb.gave at hok ⊢
  clear h
  by_cases hl : T.g k = 4294967295
  · rw [if_pos hl] at hok ⊢
    have HOK := Lib.hid hok
    clear hok
    rw [hl] at hcg
    clear hl hg1 hgm
    go_enter Tryz.func194, Tryz.ntmps194
    go_wp2_with fail
    refine (next_last _).mono ?_
    rintro e w1 ⟨rfl, hb1⟩
    have H1 := Lib.hid (H.out.below hb1)
    have hcs := H1.out.cs (i := k) (by omega)
    have hfs := H1.out.fz (1 + k * 2)
    have HB := Lib.hid hb1
    clear hb1 hcg
    go_wp2
    go_end0
    exact ⟨rfl, H1.out.put_s k 2 HOK.out, (Kept.of_below HB.out).put1 _ _⟩
  · rw [if_neg hl] at hok ⊢
    have HOK := Lib.hid hok
    obtain ⟨y, hy⟩ : ∃ y, T.g k = y := ⟨_, rfl⟩
    rw [hy] at hcg hl hg1 hgm HOK
    rw [hy]
    have h1 : (1 : Int) ≤ y := by omega
    have h2 : (y : Int) < 4294967295 := by omega
    clear hok hy hl hg1 hgm
    go_enter Tryz.func194, Tryz.ntmps194
    go_wp2_with fail
    refine (next_yes y _ h1 h2).mono ?_
    rintro e w1 ⟨rfl, hb1⟩
    have H1 := Lib.hid (H.out.below hb1)
    have hcs := H1.out.cs (i := k) (by omega)
    have hcg2 := H1.out.cg (i := k) (by omega)
    have hfs := H1.out.fz (1 + k * 2)
    have hfg := H1.out.fz (1 + k * 2 + 1)
    have HB := Lib.hid hb1
    clear hb1 hcg
    go_wp2
    go_end0
    exact ⟨rfl, H1.out.put_sg k 0 (y + 1) HOK.out, ((Kept.of_below HB.out).put1 _ _).put1 _ _⟩
end Go.Proofs.YtpinmiplefidpaaGreatDoor

namespace Go.Proofs.YtpinmiplefidpaaGreatDoor
open Go.RowKit

/-! ### Check, Give -/
theorem check_core (v : Value) (i g E : Int) (p : Option Addr) (w : World) (hh : ∀ W : World, Below w.heap.size w W → Calls Tryz.prog 145 #[v, .agg #[.int .i64 i, .int .u32 g]] W fun e w' => e = .returned (.tuple #[.pointer p, .int .i64 E]) ∧ Below W.heap.size W w') :
    Calls Tryz.prog 141 #[v, .agg #[.int .i64 i, .int .u32 g]] w fun e w' => e = .returned (.int .i64 E) ∧ Below w.heap.size w w' := by
  have HH := Lib.hid hh
  clear hh
  go_enter Tryz.func141, Tryz.ntmps141
  go_wp2_with fail
  refine (HH.out _ ((Below.refl _ w).alloc (Nat.le_refl _) _)).mono ?_
  rintro e w1 ⟨rfl, hb⟩
  have HB := Lib.hid hb
  clear hb
  go_wp2
  go_ret
  exact ⟨rfl, bel2 ((Below.refl _ w).alloc (Nat.le_refl _) _) HB.out⟩
theorem give_core (v : Value) (i g E : Int) (p : Option Addr) (w : World) (hE : (E != 0) = true) (hh : ∀ W : World, Below w.heap.size w W → Calls Tryz.prog 145 #[v, .agg #[.int .i64 i, .int .u32 g]] W fun e w' => e = .returned (.tuple #[.pointer p, .int .i64 E]) ∧ Below W.heap.size W w') :
    Calls Tryz.prog 191 #[v, .agg #[.int .i64 i, .int .u32 g]] w fun e w' => e = .returned (.int .i64 E) ∧ Below w.heap.size w w' := by
  have HH := Lib.hid hh
  clear hh
  go_enter Tryz.func191, Tryz.ntmps191
  go_wp2_with fail
  refine (HH.out _ ((Below.refl _ w).alloc (Nat.le_refl _) _)).mono ?_
  rintro e w1 ⟨rfl, hb⟩
  have HB := Lib.hid hb
  clear hb
  go_wp2
  go_ret
  exact ⟨rfl, bel2 ((Below.refl _ w).alloc (Nat.le_refl _) _) HB.out⟩
theorem check_inv (v : Option Addr) (i g : Int) (w : World) (h : Inv w v) : Calls Tryz.prog 141 #[.pointer v, .agg #[.int .i64 i, .int .u32 g]] w fun e w' => e = .returned (.int .i64 1) ∧ Below w.heap.size w w' :=
  check_core _ i g 1 none w fun W hW => held_inv v i g W (h.below hW)
theorem give_inv (v : Option Addr) (i g : Int) (w : World) (h : Inv w v) : Calls Tryz.prog 191 #[.pointer v, .agg #[.int .i64 i, .int .u32 g]] w fun e w' => e = .returned (.int .i64 1) ∧ Below w.heap.size w w' :=
  give_core _ i g 1 none w (by decide) fun W hW => held_inv v i g W (h.below hW)
theorem chk_cases (T : Tb) (i g : Int) : ((i < 0 ∨ (T.n : Int) ≤ i) ∧ T.chk i g = 3) ∨ (∃ k : Nat, i = k ∧ k < T.n ∧ (T.s k = 1 → (T.g k : Int) ≠ g) ∧ T.chk i g = 7) ∨ (∃ k : Nat, i = k ∧ k < T.n ∧ T.s k = 1 ∧ (T.g k : Int) = g ∧ T.chk i g = 0) := by
  unfold Tb.chk
  by_cases h : i < 0 ∨ (T.n : Int) ≤ i
  · exact .inl ⟨h, if_pos h⟩
  · obtain ⟨k, rfl⟩ : ∃ k : Nat, i = k := ⟨i.toNat, by omega⟩
    rw [if_neg h, Int.toNat_natCast]
    by_cases h2 : T.s k = 1 ∧ (T.g k : Int) = g
    · exact .inr (.inr ⟨k, rfl, by omega, h2.1, h2.2, if_pos h2⟩)
    · exact .inr (.inl ⟨k, rfl, by omega, fun e e2 => h2 ⟨e, e2⟩, if_neg h2⟩)
theorem check_any (b : Nat) (T : Tb) (i g : Int) (w : World) (h : TabW w b T) : Calls Tryz.prog 141 #[.pointer (some ⟨b, 0, none⟩), .agg #[.int .i64 i, .int .u32 g]] w fun e w' => e = .returned (.int .i64 (T.chk i g)) ∧ Below w.heap.size w w' := by
  rcases chk_cases T i g with ⟨h1, h2⟩ | ⟨k, rfl, h1, h3, h2⟩ | ⟨k, rfl, h1, h3, h4, h2⟩
  · rw [h2]; exact check_core _ i g 3 none w fun W hW => held_out b T i g W (h.below hW) h1
  · rw [h2]; exact check_core _ k g 7 none w fun W hW => held_stale b T k g W (h.below hW) h1 h3
  · rw [h2]; exact check_core _ k g 0 _ w fun W hW => held_ok b T k g W (h.below hW) h1 h3 h4
def GiveV (b : Nat) (_T U : Tb) (E : Int) (w : World) (e : Ending) (w' : World) : Prop := e = .returned (.int .i64 E) ∧ TabW w' b U ∧ Kept (· = b) w w'
theorem give_ok (b : Nat) (T : Tb) (k : Nat) (g : Int) (w : World) (h : TabW w b T) (hk : k < T.n) (hs : T.s k = 1) (hg : (T.g k : Int) = g) : Calls Tryz.prog 191 #[.pointer (some ⟨b, 0, none⟩), .agg #[.int .i64 k, .int .u32 g]] w (GiveV b T (T.gave k) 0 w) := by
  have HS := Lib.hid hs
  have HG := Lib.hid hg
  have H := Lib.hid h
  clear h hs hg
  go_enter Tryz.func191, Tryz.ntmps191
  go_wp2_with fail
  refine (held_ok b T k g _ (H.out.below ((Below.refl _ w).alloc (Nat.le_refl _) _)) hk HS.out HG.out).mono ?_
  rintro e w1 ⟨rfl, hb⟩
  have HB := Lib.hid (bel2 ((Below.refl _ w).alloc (Nat.le_refl _) _) hb)
  clear hb
  go_wp2_with fail
  refine (release_ok b T k _ (H.out.below HB.out) hk).mono ?_
  rintro e w2 ⟨rfl, hT, hk2⟩
  have HT := Lib.hid hT
  have HK := Lib.hid hk2
  clear hT hk2
  go_wp2
  go_ret
  exact ⟨rfl, HT.out, (Kept.of_below HB.out).trans HK.out⟩
theorem give_any (b : Nat) (T : Tb) (i g : Int) (w : World) (h : TabW w b T) : Calls Tryz.prog 191 #[.pointer (some ⟨b, 0, none⟩), .agg #[.int .i64 i, .int .u32 g]] w (GiveV b T (T.given i g) (T.chk i g) w) := by
  unfold Tb.given
  rcases chk_cases T i g with ⟨h1, h2⟩ | ⟨k, rfl, h1, h3, h2⟩ | ⟨k, rfl, h1, h3, h4, h2⟩
  · rw [h2]; exact (give_core _ i g 3 none w (by decide) fun W hW => held_out b T i g W (h.below hW) h1).mono fun e w' ⟨k1, k2⟩ => ⟨k1, h.below k2, Kept.of_below k2⟩
  · rw [h2]; exact (give_core _ k g 7 none w (by decide) fun W hW => held_stale b T k g W (h.below hW) h1 h3).mono fun e w' ⟨k1, k2⟩ => ⟨k1, h.below k2, Kept.of_below k2⟩
  · rw [h2]; exact give_ok b T k g w h h1 h3 h4

/-! ### Gen -/
/-- What Gen answers. -/
def Tb.gen (T : Tb) (i : Int) : Int := if i < 0 ∨ (T.n : Int) ≤ i then 0 else T.g i.toNat
def Tb.genE (T : Tb) (i : Int) : Int := if i < 0 ∨ (T.n : Int) ≤ i then 3 else 0
end Go.Proofs.YtpinmiplefidpaaGreatDoor

namespace Go.Proofs.YtpinmiplefidpaaGreatDoor
open Go.RowKit

theorem new_arg1 (size first : Int) (w : World) (h : size < 1 ∨ 256 < size) : Calls Tryz.prog 104 #[.int .i64 size, .int .u32 first] w fun e w' => e = .returned (.tuple #[.pointer none, .int .i64 2]) ∧ w = w' := by
  by_cases h0 : size < 1
  all_goals
    first | have h1 : 256 < size := by omega | skip
    clear h
    go_enter Tryz.func104, Tryz.ntmps104
    go_wp2
    go_ret2
    exact ⟨rfl, rfl⟩
theorem new_arg2 (size : Int) (w : World) (h1 : 1 ≤ size) (h2 : size ≤ 256) : Calls Tryz.prog 104 #[.int .i64 size, .int .u32 0] w fun e w' => e = .returned (.tuple #[.pointer none, .int .i64 2]) ∧ w = w' := by
  go_enter Tryz.func104, Tryz.ntmps104
  go_wp2_with (go_at_call 50; refine (check_zero _).mono ?_; rintro e w' ⟨rfl, rfl⟩)
  go_ret2
  exact ⟨rfl, rfl⟩
theorem zero_table (w : World) : (zeroValue 210).run Tryz.prog w = .ok (.agg (tcells zeroT)) w := by kernel_rfl
theorem tcells_ne (T : Tb) : ¬ tcells T = #[] := fun h => by have := congrArg Array.size h; rw [tcells_size] at this; simp at this
theorem tcells_one (T : Tb) : (tcells T).all (·.oneCell') = true := by
  rw [Array.all_eq_true_iff_forall_mem]
  intro v hv
  obtain ⟨j, _, rfl⟩ := List.mem_map.1 (show v ∈ (List.range 513).map (tcell T) by simpa [tcells] using hv)
  unfold tcell
  split
  · rfl
  · split <;> rfl
theorem tcells_n0 (n : Nat) : (tcells zeroT).setIfInBounds 0 (.int .i64 n) = tcells ⟨n, fun _ => 0, fun _ => 0⟩ := by
  refine tcells_ext fun j hj => ?_
  by_cases e : 0 = j
  · subst e; rw [if_pos rfl, tcell_n]
  · rw [if_neg e]
    unfold tcell
    have h0 : ¬ j = 0 := fun h => e h.symm
    rw [if_neg h0, if_neg h0]; rfl
def NewV (T : Tb) (w : World) (e : Ending) (w' : World) : Prop := e = .returned (.tuple #[.pointer (some ⟨w.heap.size, 0, none⟩), .int .i64 0]) ∧ TabW w' w.heap.size T ∧ Below w.heap.size w w'
structure NSt (w0 w : World) (T : Tb) : Prop where
  bel : Below w0.heap.size w0 w
  bk : Bk w w0.heap.size 210 (tcells T)
theorem NSt.lay {w0 w : World} {n first : Nat} (k : Nat) (h : NSt w0 w ⟨n, fun _ => 0, fun i => if i < k then first else 0⟩) :
    NSt w0 ((w.setCell ⟨w0.heap.size, 1 + k * 2, none⟩ (.int .i64 0)).setCell ⟨w0.heap.size, 1 + k * 2 + 1, none⟩ (.int .u32 first)) ⟨n, fun _ => 0, fun i => if i < k + 1 then first else 0⟩ := by
  refine ⟨(h.bel.setCell (p := ⟨_, _, none⟩) (Nat.le_refl _) _).setCell (p := ⟨_, _, none⟩) (Nat.le_refl _) _, ?_⟩
  have h1 := h.bk.put (1 + k * 2) (.int .i64 (0 : Nat))
  rw [tcells_put_s] at h1
  have h2 := h1.put (1 + k * 2 + 1) (.int .u32 first)
  rw [tcells_put_g] at h2
  have e : (⟨n, put (fun _ => 0) k 0, put (fun i => if i < k then first else 0) k first⟩ : Tb) = ⟨n, fun _ => 0, fun i => if i < k + 1 then first else 0⟩ := by
    congr 1
    · funext i; simp only [put]; split <;> rfl
    · funext i; simp only [put]
      by_cases e : i = k
      · rw [if_pos e, if_pos (by omega)]
      · rw [if_neg e]
        by_cases h : i < k
        · rw [if_pos h, if_pos (by omega)]
        · rw [if_neg h, if_neg (by omega)]
  rw [e] at h2
  exact h2
set_option maxRecDepth 100000 in
set_option maxHeartbeats 1000000 in
theorem new_ok (n : Nat) (first : Nat) (w : World) (h1 : 1 ≤ n) (h2 : n ≤ 256) (h3 : 1 ≤ first) (h4 : first ≤ 4294967295) : Calls Tryz.prog 104 #[.int .i64 n, .int .u32 first] w (NewV (fresh n first) w) := by
  have hz := zero_table
  obtain ⟨zs, hzs⟩ : ∃ zs, tcells zeroT = zs := ⟨_, rfl⟩
  have hsz : zs.size = 513 := by rw [← hzs]; exact tcells_size _
  have hne : ¬ zs = #[] := by rw [← hzs]; exact tcells_ne _
  simp only [hzs] at hz
  have HZ := Lib.hid hzs
  clear hzs
  go_enter Tryz.func104, Tryz.ntmps104
  go_wp2_with (go_at_call 50; refine (check_ok _ _ (by omega) (by omega)).mono ?_; rintro e w' ⟨rfl, rfl⟩)
  have hst : Hid (NSt w (w.alloc (.cells (zs.setIfInBounds 0 (.int .i64 n)) 210)) ⟨n, fun _ => 0, fun i => if i < 0 then first else 0⟩) := by
    refine ⟨(Below.refl _ w).alloc (Nat.le_refl _) _, ?_⟩
    rw [← HZ.out, tcells_n0]
    exact Bk.new w _ _
  clear hz hsz hne
  generalize (w.alloc (.cells (zs.setIfInBounds 0 (.int .i64 n)) 210)) = w1 at *
  clear HZ
  obtain ⟨b, hb⟩ : ∃ b, w.heap.size = b := ⟨_, rfl⟩
  have HB := Lib.hid hb
  rw [hb]
  clear hb
  go_loopw [24] (fun i wr => ∃ k : Nat, k ≤ n ∧ i = .int .i64 k ∧ Hid (NSt w wr ⟨n, fun _ => 0, fun i => if i < k then first else 0⟩)) (fun i _ => n - (intOf i).toNat)
  case atStart => exact ⟨0, Nat.zero_le _, rfl, hst.out⟩
  case round =>
    obtain ⟨k, hk, rfl, HS⟩ := hrel
    by_cases hlt : k < n
    · have hbk := HS.out.bk
      rw [HB.out] at hbk
      have hcs : wr.cell? ⟨b, 1 + k * 2, none⟩ = some (.int .i64 0) := by rw [hbk.cell, tcells_at _ (by omega), tcell_s]; rfl
      have hcg : wr.cell? ⟨b, 1 + k * 2 + 1, none⟩ = some (.int .u32 0) := by rw [hbk.cell, tcells_at _ (by omega), tcell_g]; simp
      have hfs := hbk.frozen (1 + k * 2)
      have hfg := hbk.frozen (1 + k * 2 + 1)
      clear hbk
      go_wp2
      go_roundw
      case rel => exact ⟨k + 1, by omega, by go_num, by rw [← HB.out]; exact HS.out.lay k⟩
      case measure => simp [intOf]; omega
    · obtain rfl : k = n := by omega
      go_wp2
      go_ret2
      rw [← HB.out]
      exact ⟨rfl, ⟨fresh_ok h1 h2 h3 h4, HS.out.bk⟩, HS.out.bel⟩
set_option maxRecDepth 100000 in
set_option maxHeartbeats 1000000 in
theorem copy_ok (b : Nat) (T : Tb) (w : World) (h : TabW w b T) : Calls Tryz.prog 192 #[.pointer (some ⟨b, 0, none⟩)] w fun e w' => e = .returned (.pointer (some ⟨w.heap.size, 0, none⟩)) ∧ TabW w' w.heap.size T ∧ Below w.heap.size w w' := by
  have hz := zero_table
  obtain ⟨zs, hzs⟩ : ∃ zs, tcells zeroT = zs := ⟨_, rfl⟩
  have hsz : zs.size = 513 := by rw [← hzs]; exact tcells_size _
  have hne : ¬ zs = #[] := by rw [← hzs]; exact tcells_ne _
  simp only [hzs] at hz
  have H := Lib.hid h
  have HB := Lib.hid h.bk
  have hst := run_storeCells_new (P := Tryz.prog) w 210 zs (tcells T) (by rw [tcells_size]; kernel_rfl) (by rw [tcells_size, hsz]) (tcells_one T)
  clear hzs h
  go_enter Tryz.func192, Tryz.ntmps192
  go_wp2_with (first
    | (go_at_call 150; refine (valid_yes _ _ _ H.out).mono ?_; rintro e w' ⟨rfl, rfl⟩)
    | (refine wpList_load_row rfl 210 _ rfl b rfl _ (tcells T) _ _ HB.out Tryz.underlying210 rfl (by rw [tcells_size]; kernel_rfl) ?_))
  go_ret
  exact ⟨rfl, ⟨H.out.ok, Bk.new w _ _⟩, (Below.refl _ w).alloc (Nat.le_refl _) _⟩
theorem copy_inv (v : Option Addr) (w : World) (h : Inv w v) : Calls Tryz.prog 192 #[.pointer v] w fun e w' => e = .returned (.pointer none) ∧ w = w' := by
  have H := Lib.hid h
  clear h
  go_enter Tryz.func192, Tryz.ntmps192
  go_wp2_with (go_at_call 150; refine (valid_no _ _ H.out).mono ?_; rintro e w' ⟨rfl, rfl⟩)
  go_ret
  exact ⟨rfl, rfl⟩
end Go.Proofs.YtpinmiplefidpaaGreatDoor

namespace Go.Proofs.YtpinmiplefidpaaGreatDoor
open Go.RowKit Go.Shelf
attribute [local go_sem] Oper.semAt_some

/-- What a round that goes on keeps: the blocks below n₀ that X does not name. -/
def KpS (X : Nat → Prop) (n₀ : Nat) (A B : World) : Prop := A.heap.size ≤ B.heap.size ∧ ∀ k, k < n₀ → ¬ X k → B.heap[k]? = A.heap[k]?
theorem KpS.refl (X : Nat → Prop) (n₀ : Nat) (A : World) : KpS X n₀ A A := ⟨Nat.le_refl _, fun _ _ _ => rfl⟩
theorem KpS.trans {X : Nat → Prop} {n₀ : Nat} {A B C : World} (h : KpS X n₀ A B) (k : KpS X n₀ B C) : KpS X n₀ A C := ⟨Nat.le_trans h.1 k.1, fun i hi hx => (k.2 i hi hx).trans (h.2 i hi hx)⟩
theorem KpS.of_below {X : Nat → Prop} {n₀ : Nat} {A B : World} (h : Below A.heap.size A B) (hn : n₀ ≤ A.heap.size) : KpS X n₀ A B := ⟨h.size, fun k hk _ => h.block k (by omega)⟩
theorem kpS_b {X : Nat → Prop} {n₀ : Nat} {w : World} (hn : n₀ ≤ w.heap.size) (W : World) (l : Nat) (o o' : Obj) (hl : w.heap.size ≤ l) (h : W.heap[l]? = some o) (h1 : o.isCells = false) (h2 : o.isWalk = false) : KpS X n₀ W (W.putObj l o') :=
  ⟨(belowK_b hn W l o o' hl h h1 h2).size, fun k hk _ => (belowK_b hn W l o o' hl h h1 h2).block k hk⟩

structure InAt (W : World) (X : Nat → Prop) (n₀ Bs Bw b : Nat) (T : Tb) (v : Nat) : Prop where
  t : TabW W b T
  bs : W.cell? ⟨Bs, 0, none⟩ = some (.pointer (some ⟨b, 0, none⟩))
  bw : W.cell? ⟨Bw, 0, none⟩ = some (.int .i64 v)
  sz : n₀ ≤ W.heap.size
  lb : b < n₀
  ls : Bs < n₀
  lw : Bw < n₀
  xb : ¬ X b
  xs : ¬ X Bs
  xw : ¬ X Bw
theorem InAt.kp {W W' : World} {X : Nat → Prop} {n₀ Bs Bw b v : Nat} {T : Tb} (h : InAt W X n₀ Bs Bw b T v) (k : KpS X n₀ W W') : InAt W' X n₀ Bs Bw b T v :=
  ⟨h.t.same (k.2 b h.lb h.xb), (World.cell?_of_block (a := ⟨Bs, 0, none⟩) (k.2 Bs h.ls h.xs)).trans h.bs, (World.cell?_of_block (a := ⟨Bw, 0, none⟩) (k.2 Bw h.lw h.xw)).trans h.bw, Nat.le_trans h.sz k.1, h.lb, h.ls, h.lw, h.xb, h.xs, h.xw⟩

theorem in_ok (v : Option Addr) (want : Int) (w : World) : Calls Tryz.prog 171 #[.pointer v, .int .i64 want] w fun e w' => e = .returned (.func (.func 172) #[] #[.pointer (some ⟨w.heap.size, 0, none⟩), .pointer (some ⟨w.heap.size + 1, 0, none⟩)]) ∧ (w.alloc (.cells #[.pointer v] 148)).alloc (.cells #[.int .i64 want] 205) = w' := by
  go_enter Tryz.func171, Tryz.ntmps171
  go_wp2
  go_ret
  exact ⟨rfl, rfl⟩

set_option maxRecDepth 100000 in
set_option maxHeartbeats 4000000 in
theorem in1_in (n : Nat) (hn : 1 ≤ n) (l Bs Bw n₀ b B0 : Nat) (T : Tb) (v : Nat) (X : Nat → Prop) (J Jx : List Nat → World → Prop) (hJ : AbidesFrom B0 J)
    (hY : ∀ pre x W, x ∈ sel T.s v T.n → J pre W → pre.length < (sel T.s v T.n).length → YieldAt Fence.wide (n - 1) Tryz.prog l #[.agg #[.int .i64 ((x : Nat) : Int), .int .u32 (T.g x)]] W fun e W' =>
      (e = .returned (.bool true) ∧ J (pre ++ [x]) W' ∧ KpS X n₀ W W') ∨ (e = .returned (.bool false) ∧ Jx (pre ++ [x]) W'))
    (W : World) (hA : InAt W X n₀ Bs Bw b T v) (h0 : J [] W) :
    CallsIn Fence.wide n Tryz.prog 172 #[.func (.yield l) #[] #[], .pointer (some ⟨Bs, 0, none⟩), .pointer (some ⟨Bw, 0, none⟩)] W fun e W' => (∃ v, e = .returned v) ∧
      ((∃ ys, ys = sel T.s v T.n ∧ J ys W') ∨ (∃ pre, pre <+: sel T.s v T.n ∧ Jx pre W')) := by
  have hbs := hA.bs
  have hc0 := hA.t.c0
  have hn256 := hA.t.ok.hi
  have HA := Lib.hid hA
  have HY := Lib.hid hY
  have H0 := Lib.hid h0
  have HJA : Hid (∀ (pre : List Nat) (W : World) (o : Obj), J pre W → J pre (W.alloc o)) := fun pre W o h => hJ _ _ _ none h (World.grownBy_alloc W o none) (fun r e => by cases e)
  have HST : Hid ([] ++ selFrom T.s v 0 T.n = sel T.s v T.n) := by unfold Hid; rw [List.nil_append, selFrom_zero]
  clear hA hY h0 hJ
  refine callsIn_of_wp Tryz.func172 rfl trivial ?_ rfl
  simp only [Tryz.ntmps172, List.size_toArray, List.length_cons, List.length_nil, Nat.reduceAdd, Nat.reduceSub, Array.replicate_succ, Array.replicate_zero, List.push_toArray, List.append_toArray, List.nil_append, List.cons_append]
  gi_wp2_with (refine ⟨trivial, ?_⟩; gi_at_call 150; refine (callsIn_wide.2 (valid_yes _ _ _ HA.out.t)).mono ?_; rintro e w' ⟨rfl, rfl⟩)
  clear hbs hc0
  gi_loopw [13] (fun i wr => ∃ (k : Nat) (pre : List Nat), i = .int .i64 k ∧ Hid (J pre wr) ∧ Hid (KpS X n₀ W wr) ∧ Hid (pre ++ selFrom T.s v k T.n = sel T.s v T.n)) (fun i _ => T.n - (intOf i).toNat)
  case atStart => exact ⟨0, [], rfl, H0.out, KpS.refl _ _ _, HST.out⟩
  case round =>
    obtain ⟨k, pre, rfl, HJ, HK, HP⟩ := hrel
    have HA2 := Lib.hid (HA.out.kp HK.out)
    have hbs2 := HA2.out.bs
    have hbw2 := HA2.out.bw
    by_cases hlt : k < T.n
    · have hlb := HA2.out.t.bt
      have hls := Nat.lt_of_lt_of_le HA2.out.ls HA2.out.sz
      have hlw := Nat.lt_of_lt_of_le HA2.out.lw HA2.out.sz
      have hcs := HA2.out.t.cs (i := k) (by omega)
      have hcg := HA2.out.t.cg (i := k) (by omega)
      have hp2 := HP.out
      rw [selFrom_step T.s v hlt] at hp2
      obtain ⟨y, ey⟩ : ∃ y, T.g k = y := ⟨_, rfl⟩
      obtain ⟨x, ex⟩ : ∃ x, T.s k = x := ⟨_, rfl⟩
      rw [ey] at hcg
      rw [ex] at hcs hp2
      have HJ1 := Lib.hid (HJA.out pre wr (.cells #[.int .i64 x, .int .u32 y] 207) HJ.out)
      have HK1 := Lib.hid (HK.out.trans (KpS.of_below (X := X) ((Below.refl _ wr).alloc (Nat.le_refl _) (.cells #[.int .i64 x, .int .u32 y] 207)) HA2.out.sz))
      by_cases hx : x = v
      · subst hx
        rw [if_pos rfl] at hp2
        have hYx := HY.out pre k _ (by rw [← hp2]; simp) HJ1.out (by rw [← hp2]; simp)
        rw [ey] at hYx
        obtain ⟨fn, tmps, assign, body, hy, hR⟩ := hYx
        have HQ : Hid ((pre ++ [k]) ++ selFrom T.s x (k + 1) T.n = sel T.s x T.n) := by unfold Hid; rw [← hp2]; simp
        clear hp2 ey ex
        gi_wp2
        refine hR.mono ?_
        rintro e W3 (⟨rfl, hJ3, hk3⟩ | ⟨rfl, hJx3⟩)
        · have HJ4 := Lib.hid hJ3
          have HK4 := Lib.hid (HK1.out.trans hk3)
          clear hJ3 hk3 hbs2 hbw2 hy hcs hcg
          gi_wp2
          go_roundw
          case rel => exact ⟨k + 1, _, by go_num, HJ4.out, HK4.out, HQ.out⟩
          case measure => simp [intOf]; omega
        · have HJ4 := Lib.hid hJx3
          clear hJx3 hbs2 hbw2 hy hcs hcg
          gi_wp2
          refine bodyPost_ret (results_none rfl _ _ _) rfl ?_
          exact ⟨⟨_, rfl⟩, .inr ⟨pre ++ [k], ⟨_, HQ.out⟩, HJ4.out⟩⟩
      · rw [if_neg hx, List.nil_append] at hp2
        have HQ := Lib.hid hp2
        have hxv : ((x : Int) == (v : Int)) = false := beq_eq_false_iff_ne.2 (by omega)
        clear hp2 ey ex hx
        gi_wp2
        refine ⟨fun _ h => (by cases h), ?_⟩
        gi_wp2
        go_roundw
        case rel => exact ⟨k + 1, pre, by go_num, HJ1.out, HK1.out, HQ.out⟩
        case measure => simp [intOf]; omega
    · have hp2 := HP.out
      rw [selFrom_done T.s v (by omega), List.append_nil] at hp2
      have HP2 := Lib.hid hp2
      clear hp2
      gi_wp2
      go_end0
      exact ⟨⟨_, rfl⟩, .inl ⟨_, HP2.out, HJ.out⟩⟩
end Go.Proofs.YtpinmiplefidpaaGreatDoor

namespace Go.Proofs.YtpinmiplefidpaaGreatDoor
open Go.RowKit


structure CSt (w0 w : World) (B Bs Bw b : Nat) (T : Tb) (v c : Nat) : Prop where
  t : TabW w b T
  bk : Bk w B 3 #[.int .i64 c]
  bs : w.cell? ⟨Bs, 0, none⟩ = some (.pointer (some ⟨b, 0, none⟩))
  bw : w.cell? ⟨Bw, 0, none⟩ = some (.int .i64 v)
  kp : Kept (· = B) w0 w
theorem CSt.kept {w0 w w' : World} {B Bs Bw b : Nat} {T : Tb} {v c d : Nat} (h : CSt w0 w B Bs Bw b T v c) (k : Kept (· = B) w w') (hb : b ≠ B) (hs : Bs ≠ B) (hw : Bw ≠ B) (hB : Bk w' B 3 #[.int .i64 d]) : CSt w0 w' B Bs Bw b T v d :=
  ⟨h.t.kept k hb, hB, (World.cell?_of_block (a := ⟨Bs, 0, none⟩) (k.block Bs (World.block_lt_of_cell? _ _ h.bs) hs)).trans h.bs, (World.cell?_of_block (a := ⟨Bw, 0, none⟩) (k.block Bw (World.block_lt_of_cell? _ _ h.bw) hw)).trans h.bw, h.kp.trans k⟩
theorem in1_inv (y : Value) (v : Option Addr) (Bs : Nat) (q : Value) (w : World) (h : Inv w v) (hs : w.cell? ⟨Bs, 0, none⟩ = some (.pointer v)) :
    Calls Tryz.prog 172 #[y, .pointer (some ⟨Bs, 0, none⟩), q] w fun e w' => e = .returned (.tuple #[]) ∧ w = w' := by
  have H := Lib.hid h
  clear h
  go_enter Tryz.func172, Tryz.ntmps172
  go_wp2_with (go_at_call 150; refine (valid_no _ _ H.out).mono ?_; rintro e w' ⟨rfl, rfl⟩)
  refine bodyPost_ret (results_none rfl _ _ _) rfl ?_
  exact ⟨rfl, rfl⟩

/-- What the boxes hold that count and in have laid. -/
theorem boxes (w : World) (a : Option Addr) (v : Int) {w2 : World} (h : (w.alloc (.cells #[.pointer a] 148)).alloc (.cells #[.int .i64 v] 205) = w2) :
    w2.cell? ⟨w.heap.size, 0, none⟩ = some (.pointer a) ∧ w2.cell? ⟨w.heap.size + 1, 0, none⟩ = some (.int .i64 v) ∧ w2.heap.size = w.heap.size + 2 ∧ Below w.heap.size w w2 := by
  subst h
  have b1 := (Bk.new w 148 #[.pointer a]).same (w' := (w.alloc (.cells #[.pointer a] 148)).alloc (.cells #[.int .i64 v] 205)) (Below.heap_alloc _ _ _ (by simp))
  have b2 := Bk.new (w.alloc (.cells #[.pointer a] 148)) 205 #[.int .i64 v]
  rw [World.size_alloc] at b2
  exact ⟨b1.cell 0, b2.cell 0, by simp, ((Below.refl _ w).alloc (Nat.le_refl _) _).alloc (by simp) _⟩
end Go.Proofs.YtpinmiplefidpaaGreatDoor

namespace Go.Proofs.YtpinmiplefidpaaGreatDoor
open Go.RowKit Go.Shelf
attribute [local go_sem] Oper.semAt_some

theorem info_ref : (Tryz.prog.info? 193).map (fun i => (i.zero, i.size, i.bytes)) = some (some (.agg #[.int .i64 0, .int .u32 0]), 2, 16) := by kernel_rfl
theorem info_parts {P : Program} {t : TypeId} {z : Value} {s b : Nat} (h : (P.info? t).map (fun i => (i.zero, i.size, i.bytes)) = some (some z, s, b)) : ∃ i, P.info? t = some i ∧ i.zero = some z ∧ i.size = s ∧ i.bytes = b := by
  cases hq : P.info? t with
  | none => simp [hq] at h
  | some i => simp [hq] at h; exact ⟨i, rfl, h.1, h.2.1, h.2.2⟩

theorem Bk.grown {W W' : World} {row : Option Nat} {B : Nat} {t : TypeId} {cs : Array Value} (h : Bk W B t cs) (hg : W.grownBy W' row) (hr : ∀ r, row = some r → ∃ o : Obj, W.heap[r]? = some o ∧ o.isCells = false) : Bk W' B t cs :=
  (hg.block B h.lt (fun e => by obtain ⟨o, ho, hc⟩ := hr B e.symm; rw [show W.heap[B]? = _ from h] at ho; cases ho; cases hc)).trans h
theorem pairs_snoc (l : List (Nat × Nat)) (r : Nat × Nat) : pairs (l ++ [r]) = pairs l ++ [.int .i64 r.1, .int .u32 r.2] := by simp [pairs]
theorem pairs_len (l : List (Nat × Nat)) : (pairs l).length = l.length * 2 := by
  induction l with
  | nil => rfl
  | cons a l ih => simp only [pairs, List.flatMap_cons, List.length_append, List.length_cons] at ih ⊢; rw [ih]; simp; omega
theorem refs_snoc (T : Tb) (l : List Nat) (x : Nat) : T.refs (l ++ [x]) = T.refs l ++ [(x, T.g x)] := by simp [Tb.refs]

/-- A new slice that holds the references l; nil just where there is none. -/
def TakenV (l : List (Nat × Nat)) (w : World) (e : Ending) (w' : World) : Prop :=
  ∃ v, e = .returned v ∧ w'.ownsRow w.heap.size 193 2 v l.length (pairs l) ∧ (v = .slice none 0 0 ↔ l = []) ∧ Below w.heap.size w w'
theorem ownsRow_lower {w : World} {a b : Nat} {e : TypeId} {s : Nat} {v : Value} {n : Nat} {xs : List Value} (h : w.ownsRow a e s v n xs) (hb : b ≤ a) : w.ownsRow b e s v n xs := by
  refine ⟨h.1, ?_⟩
  rcases h.2 with h | ⟨g, cap, cur, h1, h2, h3⟩
  · exact .inl h
  · exact .inr ⟨g, cap, cur, h1, by omega, h3⟩
theorem cell_two_new (w : World) (x y : Value) (t : TypeId) : ∀ j u, [x, y][j]? = some u → (w.alloc (.cells #[x, y] t)).cell? ((⟨w.heap.size, 0, none⟩ : Addr).add j) = some u := by
  intro j u hj
  have e : (⟨w.heap.size, 0, none⟩ : Addr).add j = ⟨w.heap.size, j, none⟩ := by unfold Addr.add; split <;> simp_all
  rw [e, (Bk.new w t #[x, y]).cell]
  simpa using hj
theorem appended2 {W w1 : World} {n₀ n₁ B : Nat} {t e : TypeId} {size : Nat} {v v' : Value} {k m : Nat} {xs ys : List Value} {tmp : Obj}
    (hv : Boxed W B t v) (hte : t ≠ e) (hrow : W.ownsRow n₁ e size v k xs) (hn₁ : n₁ ≤ W.heap.size) (hB : n₀ ≤ B) (h01 : n₀ ≤ n₁)
    (hown' : w1.ownsRow n₁ e size v' m ys) (hgrow : (W.alloc tmp).grownBy w1 v.ownBlock) :
    Boxed w1 B t v ∧ Boxed (w1.setCell ⟨B, 0, none⟩ v') B t v' ∧ (w1.setCell ⟨B, 0, none⟩ v').ownsRow n₁ e size v' m ys ∧ KeepsOthers W (w1.setCell ⟨B, 0, none⟩ v') ∧ Below n₀ W (w1.setCell ⟨B, 0, none⟩ v') ∧ KpS (· = B) n₁ W (w1.setCell ⟨B, 0, none⟩ v') := by
  have hv1 : Boxed w1 B t v := (hv.alloc tmp).kept hgrow (hv.not_row hte hrow)
  have hge : ∀ j, v.ownBlock = some j → n₁ ≤ j := fun j ej => (hrow.lt j ej).1
  have hbl : Below n₀ W (w1.setCell ⟨B, 0, none⟩ v') := (((Below.refl n₀ W).alloc (by omega) tmp).grown hgrow (by simp; omega) fun j ej => by have := hge j ej; omega).setCell (p := ⟨B, 0, none⟩) hB v'
  refine ⟨hv1, hv1.set v', hown'.kept (grownBy_setCell' w1 B v') (.inr (hv1.not_row hte hown').symm), ?_, hbl, hbl.size, ?_⟩
  · refine ((KeepsOthers.alloc W tmp).trans (KeepsOthers.of_grownBy hgrow fun j o ej hj => ?_)).trans (KeepsOthers.setCell _ _ _)
    rcases (hrow.alloc tmp).2 with ⟨rfl, _⟩ | ⟨g, cap, cur, rfl, _, hgb, _⟩
    · simp [Value.ownBlock] at ej
    · obtain rfl : g = j := by simpa [Value.ownBlock] using ej
      rw [hgb] at hj; cases hj; rfl
  · intro j hj hx
    rw [Below.heap_setCell _ _ _ _ hx, hgrow.block j (by simp; omega) (fun e => by have := hge j e.symm; omega)]
    exact Below.heap_alloc _ _ _ (by omega)

def encR (T : Tb) : Nat → Array Value := fun x => #[.agg #[.int .i64 ((x : Nat) : Int), .int .u32 (T.g x)]]
theorem in_stops (n : Nat) (hn : 1 ≤ n) (Bs Bw n₀ b : Nat) (T : Tb) (v : Nat) (X : Nat → Prop) (w : World) (hA : InAt w X n₀ Bs Bw b T v) :
    SeqStopsK Fence.wide n Tryz.prog 172 #[.pointer (some ⟨Bs, 0, none⟩), .pointer (some ⟨Bw, 0, none⟩)] (encR T) (KpS X n₀) (fun ys => ys = sel T.s v T.n) (fun pre => pre <+: sel T.s v T.n) (sel T.s v T.n).length w := fun l J Jx W hW hJ _ hY h0 =>
  in1_in n hn l Bs Bw n₀ b W.heap.size T v X J Jx hJ (fun pre x W _ => hY pre x W) W (hA.kp (KpS.of_below hW hA.sz)) h0
theorem stops_inv (n : Nat) (hn : 1 ≤ n) (Bs : Nat) (q : Value) (v : Option Addr) (T : Tb) (Kp : World → World → Prop) (w : World) (hv : Inv w v) (hbs : w.cell? ⟨Bs, 0, none⟩ = some (.pointer v)) :
    SeqStopsK Fence.wide n Tryz.prog 172 #[.pointer (some ⟨Bs, 0, none⟩), q] (encR T) Kp (fun ys => ys = []) (fun _ => False) 0 w := fun l J Jx W hW _ _ hY h0 => by
  have hbs2 := (hW.cell (p := ⟨Bs, 0, none⟩) (World.block_lt_of_cell? _ _ hbs)).trans hbs
  have HV := Lib.hid (hv.below hW)
  have H0 := Lib.hid h0
  clear hv hbs h0 hY hW
  refine callsIn_of_wp Tryz.func172 rfl trivial ?_ rfl
  simp only [Tryz.ntmps172, List.size_toArray, List.length_cons, List.length_nil, Nat.reduceAdd, Nat.reduceSub, Array.replicate_succ, Array.replicate_zero, List.push_toArray, List.append_toArray, List.nil_append, List.cons_append]
  gi_wp2_with (refine ⟨trivial, ?_⟩; gi_at_call 150; refine (callsIn_wide.2 (valid_no _ _ HV.out)).mono ?_; rintro e w' ⟨rfl, rfl⟩)
  refine bodyPost_ret (results_none rfl _ _ _) rfl ?_
  exact ⟨⟨_, rfl⟩, .inl ⟨_, rfl, H0.out⟩⟩

set_option maxRecDepth 100000 in
set_option maxHeartbeats 2000000 in
theorem taken_of (a : Option Addr) (T : Tb) (L : List Nat) (Sp : List Nat → Prop) (N : Nat) (hN : N ≤ 256) (w : World)
    (hseq : ∀ w2, w2.heap.size = w.heap.size + 3 → Below w.heap.size w w2 → w2.cell? ⟨w.heap.size + 1, 0, none⟩ = some (.pointer a) → w2.cell? ⟨w.heap.size + 2, 0, none⟩ = some (.int .i64 1) →
      SeqStopsK Fence.wide 2 Tryz.prog 172 #[.pointer (some ⟨w.heap.size + 1, 0, none⟩), .pointer (some ⟨w.heap.size + 2, 0, none⟩)] (encR T) (KpS (· = w.heap.size) (w.heap.size + 3)) (fun ys => ys = L) Sp N w2) :
    Calls Tryz.prog 169 #[.pointer a] w (TakenV (T.refs L) w) := by
  obtain ⟨i0, hi, hz0, hz1, hz2⟩ := info_parts info_ref
  have HSEQ := Lib.hid hseq
  clear hseq
  refine (callsIn_wide (n := 3)).1 ?_
  refine callsIn_of_wp_marks Tryz.func169 rfl trivial ?_ rfl
  simp only [Tryz.ntmps169, List.size_toArray, List.length_cons, List.length_nil, Nat.reduceAdd, Nat.reduceSub, Array.replicate_succ, Array.replicate_zero, List.push_toArray, List.append_toArray, List.nil_append, List.cons_append]
  gi_wp2_with (refine ⟨trivial, ?_⟩; gi_at_call 171; refine (callsIn_wide.2 (in_ok _ _ _)).mono ?_; rintro e w' ⟨rfl, rfl⟩)
  have bO := Boxed.new w 203 (.slice none 0 0)
  obtain ⟨w2, hw2⟩ : ∃ w2, ((w.alloc (.cells #[.slice none 0 0] 203)).alloc (.cells #[.pointer a] 148)).alloc (.cells #[.int .i64 1] 205) = w2 := ⟨_, rfl⟩
  obtain ⟨hx1, hx2, hx3, hx4⟩ := boxes (w.alloc (.cells #[.slice none 0 0] 203)) _ _ hw2
  rw [World.size_alloc] at hx1 hx2 hx3 hx4
  have hsz : w2.heap.size = w.heap.size + 3 := hx3
  have hB0 : Below w.heap.size w w2 := ((Below.refl _ w).alloc (Nat.le_refl _) _).trans (hx4.mono (by omega))
  have bO2 : Boxed w2 w.heap.size 203 (.slice none 0 0) := by rw [← hw2]; exact (bO.alloc _).alloc _
  rw [hw2]
  refine wpIn_rangeFunc_ownH rfl (by decide) (gf := 172) (lb := #[.pointer (some ⟨w.heap.size + 1, 0, none⟩), .pointer (some ⟨w.heap.size + 2, 0, none⟩)]) rfl trivial (enters_of Tryz.func172 (by kernel_rfl) rfl)
    (HSEQ.out w2 hsz hB0 hx1 hx2) KpS.trans (kpS_b (by omega)) (Below.refl _ _) (fun _ => rfl)
    (fun pre W => ((∃ v, Boxed W w.heap.size 203 v ∧ W.ownsRow (w.heap.size + 3) 193 2 v pre.length (pairs (T.refs pre)) ∧ (v = .slice none 0 0 ↔ pre = [])) ∧ w.heap.size + 3 ≤ W.heap.size) ∧ Below w.heap.size w W)
    (fun _ _ _ => False)
    (OwnFrom.and (OwnFrom.and (Own.from (holdsRow_own (w.heap.size + 3) w.heap.size 203 193 2 (fun pre => pre.length) (fun pre => pairs (T.refs pre)) (fun pre v => v = .slice none 0 0 ↔ pre = [])) _) (fun _ _ _ _ hs hg _ => Nat.le_trans hs hg.size)) (ownFrom_below (Nat.le_refl _) (by omega)))
    (fun _ _ _ _ _ hs _ _ => hs)
    ⟨⟨⟨_, bO2, World.ownsRow_nil _ _ _ _, by simp⟩, by omega⟩, hB0⟩
    (fun x a' W => ∃ B4, w.heap.size + 3 ≤ B4 ∧ Bk W B4 193 #[.int .i64 ((x : Nat) : Int), .int .u32 (T.g x)] ∧ a' = { tmps := #[.pointer a, undef, .slice none 0 0, .pointer (some ⟨w.heap.size, 0, none⟩), .pointer (some ⟨B4, 0, none⟩), .pointer a, .func (.func 172) #[] #[.pointer (some ⟨w.heap.size + 1, 0, none⟩), .pointer (some ⟨w.heap.size + 2, 0, none⟩)], .agg #[.int .i64 ((x : Nat) : Int), .int .u32 (T.g x)], undef, undef, undef, undef, undef], defers := [] })
    (fun x a' => fun s W W' row hs hg hr => by
      obtain ⟨B4, h1, h2, h3⟩ := hs
      exact ⟨B4, h1, h2.grown hg (fun r e => (hr r e).2), h3⟩) ?assign ?body ?done ?stop
  case assign =>
    rintro l pre x W K ⟨⟨⟨v, hv, hrow, hnil⟩, hsW⟩, hB⟩ hK
    have HK := Lib.hid hK
    clear hK
    unfold encR
    gi_wp2
    have hal : Below W.heap.size W (W.alloc (.cells #[.int .i64 ((x : Nat) : Int), .int .u32 (T.g x)] 193)) := (Below.refl _ W).alloc (Nat.le_refl _) _
    exact HK.out _ _ ((KeepsOthers.alloc W _).from _) (KpS.of_below hal hsW) ⟨⟨⟨v, hv.alloc _, hrow.alloc _, hnil⟩, Nat.le_trans hsW hal.size⟩, hB.alloc (by omega) _⟩ ⟨W.heap.size, hsW, Bk.new W _ _, rfl⟩
  case body =>
    rintro l pre x a' W _ _ ⟨⟨⟨v, hv, hrow, hnil⟩, hsW⟩, hB⟩ ⟨B4, hB4, hbk, rfl⟩ hlt2
    have hc := hv.cell
    have hb0 := hbk.cell 0
    have hb1 := hbk.cell 1
    simp only [List.getElem?_toArray, List.getElem?_cons_zero, List.getElem?_cons_succ] at hb0 hb1
    generalize hy : T.g x = y at *
    gi_wp2_with (gi_at_builtin; refine wpListIn_append_own _ rfl _ _ 203 rfl (w.heap.size + 3) 193 i0 (.agg #[.int .i64 0, .int .u32 0]) 2 16 Tryz.underlying203 hi hz0 hz1 hz2 rfl (by decide) _ _ _ rfl (hrow.alloc _) ⟨W.heap.size, 0, none⟩ 1 1 [.int .i64 ((x : Nat) : Int), .int .u32 y] rfl rfl (cell_two_new _ _ _ _) (by simp [Value.oneCell']) (by unfold maxLen; omega) (by omega) (by simp; omega) ?_; intro v' w1 hown' hgrow _; obtain ⟨g', cap', rfl⟩ := ownsRow_succ hown'; obtain ⟨hv1, hv2, hr2, hk2, hb2, hkp⟩ := appended2 (n₀ := w.heap.size) hv (by decide) hrow hsW (Nat.le_refl _) (by omega) hown' hgrow; have hc1 := hv1.cell; have hf1 := hv1.frozen)
    exact ⟨hk2.from _, hkp, ⟨⟨_, hv2, by rw [refs_snoc, pairs_snoc, hy]; simpa using hr2, by simp⟩, Nat.le_trans hsW hb2.size⟩, hB.trans hb2⟩
  case done =>
    rintro D ys W hD rfl ⟨⟨⟨v, hv, hrow, hnil⟩, _⟩, hB⟩ hK
    have hc := hv.cell
    gi_wp2
    refine ⟨by simp, .inl ⟨_, _, rfl, run_takeDeferred hK, ?_⟩⟩
    have hl : (T.refs ys).length = ys.length := by simp [Tb.refs]
    refine ⟨_, results_tmp rfl _ _ _, v, rfl, ?_, ?_, hB.trans (belowK_b (w := w) (Nat.le_refl _) W D _ _ (by omega) hK rfl rfl)⟩
    · rw [hl]; exact ownsRow_lower (ownsRow_putObj hrow _ hK rfl) (by omega)
    · rw [hnil]; simp [Tb.refs]
  case stop =>
    rintro D c pre W _ _ h _
    exact h.elim
theorem taken_ok (b : Nat) (T : Tb) (w : World) (h : TabW w b T) : Calls Tryz.prog 169 #[.pointer (some ⟨b, 0, none⟩)] w (TakenV T.now w) := by
  have hlb := h.bt
  refine taken_of _ T T.held (fun pre => pre <+: sel T.s 1 T.n) (sel T.s 1 T.n).length (T.held_len h.ok) w fun w2 hsz hB0 hx1 hx2 => ?_
  exact in_stops 2 (by decide) (w.heap.size + 1) (w.heap.size + 2) (w.heap.size + 3) b T 1 _ w2 ⟨h.below hB0, hx1, hx2, by omega, by omega, by omega, by omega, by omega, by omega, by omega⟩
theorem taken_inv (v : Option Addr) (w : World) (h : Inv w v) : Calls Tryz.prog 169 #[.pointer v] w fun e w' => e = .returned (.slice none 0 0) ∧ Below w.heap.size w w' := by
  refine (taken_of v zeroT [] (fun _ => False) 0 (by decide) w fun w2 hsz hB0 hx1 hx2 => stops_inv 2 (by decide) _ _ v zeroT _ w2 (h.below hB0) hx1).mono ?_
  rintro e w' ⟨u, rfl, _, h2, h3⟩
  rw [h2.2 rfl]
  exact ⟨rfl, h3⟩
end Go.Proofs.YtpinmiplefidpaaGreatDoor

namespace Go.Proofs.YtpinmiplefidpaaGreatDoor
open Go.RowKit Go.Shelf
attribute [local go_sem] Oper.semAt_some

/-- What Take answers: a slot, its generation, an error. -/
def Tb.tI (T : Tb) : Nat := match T.free with | [] => 0 | i :: _ => i
def Tb.tG (T : Tb) : Nat := match T.free with | [] => 0 | i :: _ => T.g i
def Tb.tE (T : Tb) : Int := match T.free with | [] => 4 | _ :: _ => 0
def TakeV (b : Nat) (T : Tb) (w : World) (e : Ending) (w' : World) : Prop := e = .returned (.tuple #[.agg #[.int .i64 T.tI, .int .u32 T.tG], .int .i64 T.tE]) ∧ TabW w' b T.take ∧ Kept (· = b) w w'

theorem Kept.thenB {S : Nat → Prop} {a b c : World} (h : Kept S a b) (k : Below a.heap.size b c) : Kept S a c :=
  ⟨k.os.trans h.os, k.tape.trans h.tape, k.output.trans h.output, Nat.le_trans h.size k.size, fun i hi hs => (k.block i hi).trans (h.block i hi hs)⟩
/-- What the three boxes hold that Take lays. -/
theorem take_boxes (w : World) (v : Option Addr) {w1 : World} (h : ((w.alloc (.cells #[.pointer v] 148)).alloc (.cells #[.int .i64 0, .int .u32 0] 193)).alloc (.cells #[.int .i64 0] 29) = w1) :
    Bk w1 w.heap.size 148 #[.pointer v] ∧ Bk w1 (w.heap.size + 1) 193 #[.int .i64 0, .int .u32 0] ∧ Bk w1 (w.heap.size + 2) 29 #[.int .i64 0] ∧ w1.heap.size = w.heap.size + 3 ∧ Below w.heap.size w w1 := by
  subst h
  have e1 : (w.alloc (.cells #[.pointer v] 148)).heap.size = w.heap.size + 1 := by simp
  have e2 : ((w.alloc (.cells #[.pointer v] 148)).alloc (.cells #[.int .i64 0, .int .u32 0] 193)).heap.size = w.heap.size + 2 := by simp
  have b1 := Bk.new w 148 #[.pointer v]
  have b2 := Bk.new (w.alloc (.cells #[.pointer v] 148)) 193 #[.int .i64 0, .int .u32 0]
  have b3 := Bk.new ((w.alloc (.cells #[.pointer v] 148)).alloc (.cells #[.int .i64 0, .int .u32 0] 193)) 29 #[.int .i64 0]
  rw [e1] at b2
  rw [e2] at b3
  refine ⟨(b1.same (Below.heap_alloc _ _ _ (by omega))).same (Below.heap_alloc _ _ _ (by omega)), b2.same (Below.heap_alloc _ _ _ (by omega)), b3, by simp, (((Below.refl _ w).alloc (Nat.le_refl _) _).alloc (by omega) _).alloc (by omega) _⟩
set_option maxHeartbeats 1000000 in
theorem take_inv (v : Option Addr) (w : World) (h : Inv w v) : Calls Tryz.prog 188 #[.pointer v] w fun e w' => e = .returned (.tuple #[.agg #[.int .i64 0, .int .u32 0], .int .i64 1]) ∧ Below w.heap.size w w' := by
  obtain ⟨hb1, hb2, hb3, hsz, hB⟩ := take_boxes w v rfl
  have HI := Lib.hid (h.below hB)
  clear h hb1 hb2 hb3 hsz hB
  go_enter Tryz.func188, Tryz.ntmps188
  go_wp2_with fail
  refine (valid_no _ _ HI.out).mono ?_
  rintro e w' ⟨rfl, rfl⟩
  go_wp2
  refine bodyPost_ret (v := .tuple #[.agg #[.int .i64 0, .int .u32 0], .int .i64 1]) (by simp [results, Tryz.results188, go_sem]) rfl ⟨rfl, ?_⟩
  exact ((((Below.refl _ w).alloc (Nat.le_refl _) _).alloc (by simp) _).alloc (by simp; omega) _)
/-- The slots in a state, as a type of their own: what the loop's body may suppose of its variable. -/
def Sub (T : Tb) (v : Nat) : Type := { x : Nat // x ∈ sel T.s v T.n }
def encS (T : Tb) (v : Nat) : Sub T v → Array Value := fun x => #[.agg #[.int .i64 ((x.1 : Nat) : Int), .int .u32 (T.g x.1)]]
theorem in_stops2 (n : Nat) (hn : 1 ≤ n) (Bs Bw n₀ b : Nat) (T : Tb) (v : Nat) (X : Nat → Prop) (w : World) (hA : InAt w X n₀ Bs Bw b T v) :
    SeqStopsK Fence.wide n Tryz.prog 172 #[.pointer (some ⟨Bs, 0, none⟩), .pointer (some ⟨Bw, 0, none⟩)] (encS T v) (KpS X n₀) (fun ys => ys.map (·.1) = sel T.s v T.n) (fun pre => pre.map (·.1) <+: sel T.s v T.n) (sel T.s v T.n).length w := fun l J Jx W hW hJ _ hY h0 => by
  refine (in1_in n hn l Bs Bw n₀ b W.heap.size T v X (fun pre W => ∃ p : List (Sub T v), p.map (·.1) = pre ∧ J p W) (fun pre W => ∃ p : List (Sub T v), p.map (·.1) = pre ∧ Jx p W) (fun s A B row hs hg hr => ?_) (fun pre x W1 hx hJp hlt => ?_) W (hA.kp (KpS.of_below hW hA.sz)) ⟨[], rfl, h0⟩).mono fun e W' h => ?_
  · obtain ⟨p, e, hp⟩ := hs
    exact ⟨p, e, hJ _ _ _ _ hp hg hr⟩
  · obtain ⟨p, e, hp⟩ := hJp
    subst e
    obtain ⟨fn, tmps, assign, body, hy, hR⟩ := hY p ⟨x, hx⟩ W1 hp (by simpa using hlt)
    refine ⟨fn, tmps, assign, body, hy, hR.mono ?_⟩
    rintro e W' (⟨h1, h2, h3⟩ | ⟨h1, h2⟩)
    · exact .inl ⟨h1, ⟨p ++ [⟨x, hx⟩], by rw [List.map_append]; rfl, h2⟩, h3⟩
    · exact .inr ⟨h1, p ++ [⟨x, hx⟩], by rw [List.map_append]; rfl, h2⟩
  · refine ⟨h.1, ?_⟩
    rcases h.2 with ⟨ys, e, p, e2, hp⟩ | ⟨pre, e, p, e2, hp⟩
    · exact .inl ⟨p, e2.trans e, hp⟩
    · exact .inr ⟨p, by show List.map _ p <+: _; rw [e2]; exact e, hp⟩
/-- While Take's loop has taken nothing; when it has. -/
def TkI (w : World) (b : Nat) (T : Tb) (pre : List (Sub T 0)) (W : World) : Prop := pre = [] ∧ (Bk W w.heap.size 148 #[.pointer (some ⟨b, 0, none⟩)] ∧ Bk W (w.heap.size + 1) 193 #[.int .i64 0, .int .u32 0] ∧ Bk W (w.heap.size + 2) 29 #[.int .i64 0] ∧ w.heap.size + 5 ≤ W.heap.size) ∧ Below w.heap.size w W
def TkX (w : World) (b : Nat) (T : Tb) (c : Code) (pre : List (Sub T 0)) (W : World) : Prop := c = .ret ∧ ∃ x : Sub T 0, pre = [x] ∧ (TabW W b (T.took x.1) ∧ Bk W (w.heap.size + 1) 193 #[.int .i64 ((x.1 : Nat) : Int), .int .u32 (T.g x.1)] ∧ Bk W (w.heap.size + 2) 29 #[.int .i64 0]) ∧ Kept (· = b) w W
theorem tkx_end {w W : World} {b i y B : Nat} {T : Tb} (hBW : Below w.heap.size w W) (hT : TabW W b T) (hbt : b < w.heap.size) (_hB : w.heap.size ≤ B)
    (k2 : Bk W (w.heap.size + 1) 193 #[.int .i64 0, .int .u32 0]) (k3 : Bk W (w.heap.size + 2) 29 #[.int .i64 0]) (hi : i ∈ sel T.s 0 T.n) (hy : T.g i = y) (W' : World)
    (e1 : W'.heap = ((((W.setCell ⟨b, 1 + i * 2, none⟩ (.int .i64 1)).setCell ⟨w.heap.size + 1, 0, none⟩ (.int .i64 i)).setCell ⟨w.heap.size + 1, 1, none⟩ (.int .u32 y)).setCell ⟨w.heap.size + 2, 0, none⟩ (.int .i64 0)).heap)
    (e2 : W'.os = W.os) (e3 : W'.tape = W.tape) (e4 : W'.output = W.output) : KeepsFrom B W W' ∧ TkX w b T .ret ([] ++ [⟨i, hi⟩]) W' := by
  obtain ⟨Z, hZ⟩ : ∃ Z, (((W.setCell ⟨b, 1 + i * 2, none⟩ (.int .i64 1)).setCell ⟨w.heap.size + 1, 0, none⟩ (.int .i64 i)).setCell ⟨w.heap.size + 1, 1, none⟩ (.int .u32 y)).setCell ⟨w.heap.size + 2, 0, none⟩ (.int .i64 0) = Z := ⟨_, rfl⟩
  rw [hZ] at e1
  have hK : KeepsOthers W Z := by rw [← hZ]; exact (((KeepsOthers.setCell _ _ _).trans (KeepsOthers.setCell _ _ _)).trans (KeepsOthers.setCell _ _ _)).trans (KeepsOthers.setCell _ _ _)
  have hn := (mem_sel.1 hi).1
  have h1 := (hT.put_s i 1 (hT.ok.took i)).bk
  have h2 := ((k2.same (w' := W.setCell ⟨b, 1 + i * 2, none⟩ (.int .i64 1)) (Below.heap_setCell _ _ _ _ (by show w.heap.size + 1 ≠ b; omega))).put 0 (.int .i64 i)).put 1 (.int .u32 y)
  have hb : Bk Z b 210 (tcells (T.took i)) := by
    rw [← hZ]
    exact ((h1.same (Below.heap_setCell _ _ _ _ (by show b ≠ w.heap.size + 1; omega))).same (Below.heap_setCell _ _ _ _ (by show b ≠ w.heap.size + 1; omega))).same (Below.heap_setCell _ _ _ _ (by show b ≠ w.heap.size + 2; omega))
  have hr : Bk Z (w.heap.size + 1) 193 #[.int .i64 i, .int .u32 y] := by
    rw [← hZ]
    exact h2.same (Below.heap_setCell _ _ _ _ (by show w.heap.size + 1 ≠ w.heap.size + 2; omega))
  have he : Bk Z (w.heap.size + 2) 29 #[.int .i64 0] := by
    rw [← hZ]
    exact (((k3.same (Below.heap_setCell _ _ _ _ (by show w.heap.size + 2 ≠ b; omega))).same (Below.heap_setCell _ _ _ _ (by show w.heap.size + 2 ≠ w.heap.size + 1; omega))).same (Below.heap_setCell _ _ _ _ (by show w.heap.size + 2 ≠ w.heap.size + 1; omega))).put 0 _
  have hkk : ∀ k, k < w.heap.size → ¬ k = b → Z.heap[k]? = w.heap[k]? := by
    intro k hk hkb
    rw [← hZ, Below.heap_setCell _ _ _ _ (by show k ≠ w.heap.size + 2; omega), Below.heap_setCell _ _ _ _ (by show k ≠ w.heap.size + 1; omega), Below.heap_setCell _ _ _ _ (by show k ≠ w.heap.size + 1; omega), Below.heap_setCell _ _ _ _ (by show k ≠ b; omega)]
    exact hBW.block k hk
  have hsz : w.heap.size ≤ Z.heap.size := Nat.le_trans hBW.size hK.size
  refine ⟨⟨by rw [e1]; exact hK.size, fun k o _ h ho => by rw [e1]; exact hK.same k o h ho⟩, rfl, ⟨i, hi⟩, rfl, ⟨⟨hT.ok.took i, by unfold Bk; rw [e1]; exact hb⟩, by unfold Bk; rw [e1, hy]; exact hr, by unfold Bk; rw [e1]; exact he⟩, ⟨e2.trans hBW.os, e3.trans hBW.tape, e4.trans hBW.output, by rw [e1]; exact hsz, fun k hk hkb => by rw [e1]; exact hkk k hk hkb⟩⟩
set_option maxRecDepth 100000 in
set_option maxHeartbeats 2000000 in
theorem take_ok (b : Nat) (T : Tb) (w : World) (h : TabW w b T) : Calls Tryz.prog 188 #[.pointer (some ⟨b, 0, none⟩)] w (TakeV b T w) := by
  have hbt := h.bt
  have hn := h.ok.hi
  have H := Lib.hid h
  clear h
  obtain ⟨w1, hw1⟩ : ∃ w1, ((w.alloc (.cells #[.pointer (some ⟨b, 0, none⟩)] 148)).alloc (.cells #[.int .i64 0, .int .u32 0] 193)).alloc (.cells #[.int .i64 0] 29) = w1 := ⟨_, rfl⟩
  obtain ⟨hb1, hb2, hb3, hsz, hB⟩ := take_boxes w _ hw1
  have HW1 := Lib.hid hw1
  have HT1 := Lib.hid (H.out.below hB)
  have hc1 := hb1.cell 0
  simp only [List.getElem?_toArray, List.getElem?_cons_zero] at hc1
  clear hw1
  refine (callsIn_wide (n := 3)).1 ?_
  refine callsIn_of_wp_marks Tryz.func188 rfl trivial ?_ rfl
  simp only [Tryz.ntmps188, List.size_toArray, List.length_cons, List.length_nil, Nat.reduceAdd, Nat.reduceSub, Array.replicate_succ, Array.replicate_zero, List.push_toArray, List.append_toArray, List.nil_append, List.cons_append]
  have HT0 : Hid (TabW (((w.alloc (.cells #[.pointer (some ⟨b, 0, none⟩)] 148)).alloc (.cells #[.int .i64 0, .int .u32 0] 193)).alloc (.cells #[.int .i64 0] 29)) b T) := by rw [HW1.out]; exact HT1.out
  gi_wp2_with (first
    | (refine ⟨trivial, ?_⟩; gi_at_call 150; refine (callsIn_wide.2 (valid_yes _ _ _ HT0.out)).mono ?_; rintro e w' ⟨rfl, rfl⟩)
    | (refine ⟨trivial, ?_⟩; gi_at_call 171; refine (callsIn_wide.2 (in_ok _ _ _)).mono ?_; rintro e w' ⟨rfl, rfl⟩))
  rw [HW1.out]
  obtain ⟨w2, hw2⟩ : ∃ w2, (w1.alloc (.cells #[.pointer (some ⟨b, 0, none⟩)] 148)).alloc (.cells #[.int .i64 0] 205) = w2 := ⟨_, rfl⟩
  obtain ⟨hx1, hx2, hx3, hx4⟩ := boxes w1 _ _ hw2
  rw [hsz] at hx1 hx2 hx3
  have hsz2 : w2.heap.size = w.heap.size + 5 := hx3
  have hB2 : Below w.heap.size w w2 := bel2 hB hx4
  rw [hw2]
  have hI0 : Bk w2 w.heap.size 148 #[.pointer (some ⟨b, 0, none⟩)] ∧ Bk w2 (w.heap.size + 1) 193 #[.int .i64 0, .int .u32 0] ∧ Bk w2 (w.heap.size + 2) 29 #[.int .i64 0] := ⟨hb1.below hx4, hb2.below hx4, hb3.below hx4⟩
  clear hb1 hb2 hb3 hc1
  refine wpIn_rangeFunc_ownH rfl (by decide) (gf := 172) (lb := #[.pointer (some ⟨w.heap.size + 3, 0, none⟩), .pointer (some ⟨w.heap.size + 4, 0, none⟩)]) rfl trivial (enters_of Tryz.func172 (by kernel_rfl) rfl)
    (in_stops2 2 (by decide) (w.heap.size + 3) (w.heap.size + 4) (w.heap.size + 5) b T 0 (fun _ => False) w2 ⟨H.out.below hB2, hx1, hx2, by omega, by omega, by omega, by omega, id, id, id⟩) KpS.trans (kpS_b (by omega)) (Below.refl _ _) (fun _ => rfl)
    (TkI w b T) (TkX w b T)
    (fun s A B row hs hg hr => by
      obtain ⟨h1, ⟨h2, h3, h4, h6⟩, h5⟩ := hs
      have hr2 := fun r e => (hr r e).2
      exact ⟨h1, ⟨h2.grown hg hr2, h3.grown hg hr2, h4.grown hg hr2, Nat.le_trans h6 hg.size⟩, ownFrom_below (β := Unit) (Nat.le_refl _) (by omega) () A B row h5 hg hr⟩)
    (fun c s A B row hs hg hr => by
      obtain ⟨h0, x, h1, ⟨h2, h3, h4⟩, h5⟩ := hs
      have hr2 := fun r e => (hr r e).2
      exact ⟨h0, x, h1, ⟨⟨h2.ok, h2.bk.grown hg hr2⟩, h3.grown hg hr2, h4.grown hg hr2⟩, h5.thenB ((Below.refl _ A).grown hg h5.size (fun k e => by have := (hr k e).1; omega))⟩)
    ⟨rfl, ⟨hI0.1, hI0.2.1, hI0.2.2, by omega⟩, hB2⟩
    (fun x a' W => ∃ B4, w.heap.size + 5 ≤ B4 ∧ Bk W B4 193 #[.int .i64 ((x.1 : Nat) : Int), .int .u32 (T.g x.1)] ∧ a' = { tmps := #[.pointer (some ⟨b, 0, none⟩), .pointer (some ⟨w.heap.size, 0, none⟩), .pointer (some ⟨w.heap.size + 1, 0, none⟩), .pointer (some ⟨w.heap.size + 2, 0, none⟩), .pointer (some ⟨B4, 0, none⟩), .pointer (some ⟨b, 0, none⟩), .bool true, .bool false, undef, .pointer (some ⟨b, 0, none⟩), .func (.func 172) #[] #[.pointer (some ⟨w.heap.size + 3, 0, none⟩), .pointer (some ⟨w.heap.size + 4, 0, none⟩)], .agg #[.int .i64 ((x.1 : Nat) : Int), .int .u32 (T.g x.1)], undef, undef, undef, undef, undef, undef, undef, undef, undef], defers := [] })
    (fun x a' => fun s W W' row hs hg hr => by
      obtain ⟨B4, h1, h2, h3⟩ := hs
      exact ⟨B4, h1, h2.grown hg (fun r e => (hr r e).2), h3⟩) ?assign ?body ?done ?stop
  case assign =>
    rintro l pre x W K ⟨rfl, ⟨k1, k2, k3, k4⟩, hBW⟩ hK
    have HK := Lib.hid hK
    clear hK
    unfold encS
    gi_wp2
    have hal : Below W.heap.size W (W.alloc (.cells #[.int .i64 ((x.1 : Nat) : Int), .int .u32 (T.g x.1)] 193)) := (Below.refl _ W).alloc (Nat.le_refl _) _
    exact HK.out _ _ ((KeepsOthers.alloc W _).from _) (KpS.of_below hal k4) (show TkI w b T [] _ from ⟨rfl, ⟨k1.below hal, k2.below hal, k3.below hal, Nat.le_trans k4 hal.size⟩, bel2 hBW hal⟩) ⟨W.heap.size, k4, Bk.new W _ _, rfl⟩
  case body =>
    rintro l pre x a' W _ _ ⟨rfl, ⟨k1, k2, k3, k4⟩, hBW⟩ ⟨B4, hB4, hbk, rfl⟩ hlt2
    obtain ⟨i, hi⟩ := x
    simp only [] at hbk ⊢
    have hx := mem_sel.1 hi
    have HX := Lib.hid hx
    have hin : i < T.n := hx.1
    have HT2 := Lib.hid (H.out.below hBW)
    have hcs := HT2.out.cs (i := i) (by omega)
    have hfs := HT2.out.fz (1 + i * 2)
    have hc1 := k1.cell 0
    have hr0 := k2.cell 0
    have hr1 := k2.cell 1
    have he0 := k3.cell 0
    have hf0 := k2.frozen 0
    have hf1 := k2.frozen 1
    have hfe := k3.frozen 0
    have hb0 := hbk.cell 0
    have hb1 := hbk.cell 1
    simp only [List.getElem?_toArray, List.getElem?_cons_zero, List.getElem?_cons_succ] at hb0 hb1 hc1 hr0 hr1 he0
    have HK := Lib.hid (And.intro k2 k3)
    have HB := Lib.hid hBW
    obtain ⟨y, hy⟩ : ∃ y, T.g i = y := ⟨_, rfl⟩
    rw [hy] at hb1 ⊢
    have HG := Lib.hid hy
    clear hy
    clear hx k1 k2 k3 hbk hBW
    gi_wp2
    gi_region
    all_goals
      gi_wp2
      exact tkx_end HB.out HT2.out hbt (by omega) HK.out.1 HK.out.2 hi HG.out _ rfl rfl rfl rfl
  case done =>
    rintro D ys W hD hys ⟨rfl, ⟨k1, k2, k3, k4⟩, hBW⟩ hK
    have hfree : T.free = [] := hys.symm
    have HF := Lib.hid hfree
    have hr0 := k2.cell 0
    have hr1 := k2.cell 1
    have he0 := k3.cell 0
    have hf0 := k2.frozen 0
    have hf1 := k2.frozen 1
    have hfe := k3.frozen 0
    simp only [List.getElem?_toArray, List.getElem?_cons_zero, List.getElem?_cons_succ] at hr0 hr1 he0
    clear hys hfree
    gi_wp2
    obtain ⟨Z, hZ⟩ : ∃ Z, ((W.setCell ⟨w.heap.size + 1, 0, none⟩ (.int .i64 0)).setCell ⟨w.heap.size + 1, 1, none⟩ (.int .u32 0)).setCell ⟨w.heap.size + 2, 0, none⟩ (.int .i64 4) = Z := ⟨_, rfl⟩
    have hK' : Z.heap[D]? = some (.deferred (some [])) := by rw [← hZ]; exact (((KeepsOthers.setCell _ _ _).trans (KeepsOthers.setCell _ _ _)).trans (KeepsOthers.setCell _ _ _)).same D _ hK rfl
    have hr : Bk Z (w.heap.size + 1) 193 #[.int .i64 0, .int .u32 0] := by
      rw [← hZ]; exact ((k2.put 0 (.int .i64 0)).put 1 (.int .u32 0)).same (Below.heap_setCell _ _ _ _ (by show w.heap.size + 1 ≠ w.heap.size + 2; omega))
    have he : Bk Z (w.heap.size + 2) 29 #[.int .i64 4] := by
      rw [← hZ]; exact ((k3.same (Below.heap_setCell _ _ _ _ (by show w.heap.size + 2 ≠ w.heap.size + 1; omega))).same (Below.heap_setCell _ _ _ _ (by show w.heap.size + 2 ≠ w.heap.size + 1; omega))).put 0 (.int .i64 4)
    have hBZ : Below w.heap.size w Z := by rw [← hZ]; exact ((hBW.setCell (p := ⟨w.heap.size + 1, 0, none⟩) (by simp) _).setCell (p := ⟨w.heap.size + 1, 1, none⟩) (by simp) _).setCell (p := ⟨w.heap.size + 2, 0, none⟩) (by simp) _
    rw [show w.heap.size + 1 + 1 = w.heap.size + 2 from rfl, hZ]
    have hg := grownBy_putObj' Z D (.deferred none)
    have hr2 := hr.grown hg (fun r e => by cases e; exact ⟨_, hK', rfl⟩)
    have he2 := he.grown hg (fun r e => by cases e; exact ⟨_, hK', rfl⟩)
    have c0 := hr2.cell 0
    have c1 := hr2.cell 1
    have c2 := he2.cell 0
    simp only [List.getElem?_toArray, List.getElem?_cons_zero, List.getElem?_cons_succ] at c0 c1 c2
    have hBF : Below w.heap.size w (Z.putObj D (.deferred none)) := hBZ.trans (belowK_b (w := w) (Nat.le_refl _) _ D _ _ (by omega) hK' rfl rfl)
    refine ⟨by simp, .inl ⟨_, _, rfl, run_takeDeferred hK', ?_⟩⟩
    refine ⟨.tuple #[.agg #[.int .i64 0, .int .u32 0], .int .i64 4], ?_, ?_, ?_, Kept.of_below hBF⟩
    · clear hr0 hr1 he0 hf0 hf1 hfe hr2 he2 hr he hZ hK' hBZ hBF hg
      simp [results, Tryz.f188, go_sem, c0, c1, c2]
    · simp [Tb.tI, Tb.tG, Tb.tE, HF.out]
    · have : T.take = T := by unfold Tb.take; rw [HF.out]
      rw [this]; exact H.out.below hBF
  case stop =>
    rintro D c pre W hD hpre ⟨rfl, x, rfl, ⟨h2, h3, h4⟩, h5⟩ hK
    obtain ⟨r, hr⟩ := hpre
    have hfree : T.free = x.1 :: r := hr.symm
    have HF := Lib.hid hfree
    have HK := Lib.hid (And.intro h2 (And.intro h3 (And.intro h4 h5)))
    clear hr hfree h2 h3 h4 h5
    gi_wp2
    have hg := grownBy_putObj' W D (.deferred none)
    have hr2 := HK.out.2.1.grown hg (fun r e => by cases e; exact ⟨_, hK, rfl⟩)
    have he2 := HK.out.2.2.1.grown hg (fun r e => by cases e; exact ⟨_, hK, rfl⟩)
    have ht2 := HK.out.1.bk.grown hg (fun r e => by cases e; exact ⟨_, hK, rfl⟩)
    have c0 := hr2.cell 0
    have c1 := hr2.cell 1
    have c2 := he2.cell 0
    simp only [List.getElem?_toArray, List.getElem?_cons_zero, List.getElem?_cons_succ] at c0 c1 c2
    refine ⟨by simp, .inl ⟨_, _, rfl, run_takeDeferred hK, ?_⟩⟩
    refine ⟨.tuple #[.agg #[.int .i64 ((x.1 : Nat) : Int), .int .u32 (T.g x.1)], .int .i64 0], ?_, ?_, ?_, HK.out.2.2.2.thenB (belowK_b (w := w) (Nat.le_refl _) _ D _ _ (by omega) hK rfl rfl)⟩
    · clear hr2 he2 ht2 hg
      have e2 : w.heap.size + 1 + 1 = w.heap.size + 2 := rfl
      simp [results, Tryz.f188, go_sem, c0, c1, c2]
    · simp [Tb.tI, Tb.tG, Tb.tE, HF.out]
    · have : T.take = T.took x.1 := by unfold Tb.take; rw [HF.out]
      rw [this]; exact ⟨HK.out.1.ok, ht2⟩
end Go.Proofs.YtpinmiplefidpaaGreatDoor

namespace Go.Proofs.YtpinmiplefidpaaGreatDoor
open Go.RowKit

theorem bel_drew {B : Nat} {a w : World} (h : Below B a w) : Below B a w.drew := ⟨h.os, h.tape, h.output, h.size, h.block⟩
theorem bel_alloc {w W : World} (h : Below w.heap.size w W) (o : Obj) : Below w.heap.size w (W.alloc o) := h.alloc h.size _
theorem Bk.up {w : World} {g : Nat} {t : TypeId} {cs : Array Value} (h : Bk w g t cs) (o : Obj) : Bk (w.alloc o) g t cs := h.same (Below.heap_alloc _ _ _ h.lt)
theorem Kept.self {S : Nat → Prop} {a w w' : World} (h : Kept S a w) (k : Kept (fun g => S g ∨ a.heap.size ≤ g) w w') : Kept S a w' :=
  ⟨k.os.trans h.os, k.tape.trans h.tape, k.output.trans h.output, Nat.le_trans h.size k.size, fun i hi hs => (k.block i (Nat.lt_of_lt_of_le hi h.size) (by rintro (x | x); exact hs x; omega)).trans (h.block i hi hs)⟩
theorem cell_keeps {w w' : World} (hb : Below w.heap.size w w') {p : Addr} {v : Value} (h : w.cell? p = some v) : w'.cell? p = some v := (hb.cell (World.block_lt_of_cell? _ _ h)).trans h
theorem kept_cell {S : Nat → Prop} {w w' : World} (h : Kept S w w') {g i : Nat} {v : Value} (hc : w.cell? ⟨g, i, none⟩ = some v) (hg : ¬ S g) : w'.cell? ⟨g, i, none⟩ = some v :=
  (World.cell?_of_block (a := ⟨g, i, none⟩) (h.block g (World.block_lt_of_cell? _ _ hc) hg)).trans hc

/-! ### resources in cells -/
/-- A resource. -/
structure Ro where
  k : Int
  i : Int
  g : Int
/-- What its fields may hold. -/
structure RgO (k i g : Int) : Prop where
  k0 : -9223372036854775808 ≤ k
  k1 : k ≤ 9223372036854775807
  i0 : -9223372036854775808 ≤ i
  i1 : i ≤ 9223372036854775807
  g0 : 0 ≤ g
  g1 : g ≤ 4294967295
def Ro.Rg (o : Ro) : Prop := RgO o.k o.i o.g
def Ro.cl (o : Ro) : List Value := [.int .i64 o.k, .int .i64 o.i, .int .u32 o.g]
def okey (k i g : Int) : Value := .agg #[.int .i64 k, .int .i64 i, .int .u32 g]
def Ro.val (o : Ro) : Value := okey o.k o.i o.g
def ocls (l : List Ro) : List Value := l.flatMap Ro.cl
theorem Ro.ext' {a b : Ro} (h1 : a.k = b.k) (h2 : a.i = b.i) (h3 : a.g = b.g) : a = b := by cases a; cases b; simp_all
theorem ocls_append (l m : List Ro) : ocls (l ++ m) = ocls l ++ ocls m := by simp [ocls]
theorem ocls_cons (a : Ro) (l : List Ro) : ocls (a :: l) = a.cl ++ ocls l := by simp [ocls]
theorem ocls_snoc (l : List Ro) (r : Ro) : ocls (l ++ [r]) = ocls l ++ r.cl := by simp [ocls]
theorem ocls_length (l : List Ro) : (ocls l).length = l.length * 3 := by
  induction l with
  | nil => rfl
  | cons a l ih => rw [ocls_cons, List.length_append, ih, List.length_cons]; simp [Ro.cl]; omega
theorem ocls_one (l : List Ro) : ∀ u ∈ ocls l, u.oneCell' = true := by
  intro u hu
  obtain ⟨a, _, h⟩ := List.mem_flatMap.1 hu
  simp only [Ro.cl, List.mem_cons, List.not_mem_nil, or_false] at h
  rcases h with rfl | rfl | rfl <;> rfl
theorem Ro.cl_one (r : Ro) : ∀ u ∈ r.cl, u.oneCell' = true := by
  intro u hu
  exact ocls_one [r] u (by simpa [ocls] using hu)
theorem ocls_at (l : List Ro) (j : Nat) (h : j < l.length) (q : Nat) (hq : q < 3) : (ocls l)[j * 3 + q]? = l[j].cl[q]? := by
  induction l generalizing j with
  | nil => simp at h
  | cons a l ih =>
    rw [ocls_cons]
    cases j with
    | zero => rw [Nat.zero_mul, Nat.zero_add, List.getElem?_append_left (by simp [Ro.cl]; omega)]; rfl
    | succ j =>
      have e1 : a.cl.length = 3 := rfl
      rw [List.getElem?_append_right (by rw [e1]; omega), e1, show (j + 1) * 3 + q - 3 = j * 3 + q by omega, ih j (by simpa using h)]
      rfl

/-! ### slices of resources -/
/-- The slice value v reads as the resources l. -/
def RdO (w : World) (v : Value) (l : List Ro) : Prop :=
  ∃ a c, v = .slice a l.length c ∧ l.length ≤ c ∧ c ≤ 9223372036854775807 ∧ (a = none → c = 0) ∧ (0 < l.length → ∃ g off, a = some ⟨g, off, none⟩ ∧ g < w.heap.size ∧ ∀ j x, (ocls l)[j]? = some x → w.cell? ⟨g, off + j, none⟩ = some x)
section
variable {w w' : World} {v : Value} {l : List Ro}
theorem RdO.same (h : RdO w v l) (hs : w.heap.size ≤ w'.heap.size) (e : ∀ g, v.ownBlock = some g → g < w.heap.size → w'.heap[g]? = w.heap[g]?) : RdO w' v l := by
  obtain ⟨a, c, e0, h1, h2, h3, h4⟩ := h
  refine ⟨a, c, e0, h1, h2, h3, fun h0 => ?_⟩
  obtain ⟨g, off, e2, hg, hc⟩ := h4 h0
  exact ⟨g, off, e2, Nat.lt_of_lt_of_le hg hs, fun j x hj => (World.cell?_of_block (a := ⟨g, off + j, none⟩) (e g (by rw [e0, e2]; rfl) hg)).trans (hc j x hj)⟩
theorem RdO.below (h : RdO w v l) (hb : Below w.heap.size w w') : RdO w' v l := h.same hb.size fun g _ hg => hb.block g hg
theorem RdO.kept {S : Nat → Prop} (h : RdO w v l) (k : Kept S w w') (hs : ∀ g, v.ownBlock = some g → ¬ S g) : RdO w' v l := h.same k.size fun g e hg => k.block g hg (hs g e)
theorem RdO.nil (w : World) : RdO w (.slice none 0 0) [] := ⟨none, 0, rfl, Nat.le_refl _, by omega, fun _ => rfl, fun h => by simp at h⟩
theorem RdO.len (h : RdO w v l) : ∃ a c, v = .slice a l.length c ∧ l.length ≤ c ∧ c ≤ 9223372036854775807 ∧ RdO w (.slice a l.length c) l := by
  obtain ⟨a, c, e, h1, h2, _⟩ := id h
  subst e
  exact ⟨a, c, rfl, h1, h2, h⟩
/-- The three cells of a resource at offset o of block g. -/
def Three (w : World) (g o : Nat) (a : Ro) : Prop :=
  w.cell? ⟨g, o, none⟩ = some (.int .i64 a.k) ∧ w.cell? ⟨g, o + 1, none⟩ = some (.int .i64 a.i) ∧ w.cell? ⟨g, o + 2, none⟩ = some (.int .u32 a.g)
theorem RdO.cell {a : Option Addr} {n c : Nat} (h : RdO w (.slice a n c) l) {j : Nat} (hj : j < l.length) : ∃ g off, a = some ⟨g, off, none⟩ ∧ g < w.heap.size ∧ Three w g (off + j * 3) l[j] := by
  obtain ⟨a', c', e, h1, h2, h3, h4⟩ := h
  injection e with e1 e2 e3
  subst e1 e2 e3
  obtain ⟨g, off, e2, hg, hc⟩ := h4 (by omega)
  have k : ∀ q, q < 3 → ∀ x, l[j].cl[q]? = some x → w.cell? ⟨g, off + j * 3 + q, none⟩ = some x := fun q hq x hx => by
    rw [Nat.add_assoc]; exact hc _ x ((ocls_at l j hj q hq).trans hx)
  exact ⟨g, off, e2, hg, by simpa using k 0 (by omega) _ rfl, k 1 (by omega) _ rfl, k 2 (by omega) _ rfl⟩
theorem RdO.of_own {b : Nat} (h : w.ownsRow b 25 3 v l.length (ocls l)) : RdO w v l := by
  rcases h.2 with ⟨rfl, h0⟩ | ⟨g, cap, cur, rfl, h1, h2, h3, h4, h5, h6⟩
  · have : l = [] := List.eq_nil_of_length_eq_zero h0
    subst this
    exact RdO.nil w
  · have hg : Bk w g 25 cur := h2
    refine ⟨_, cap, rfl, h3, by unfold maxLen at h4; omega, fun e => (by cases e), fun _ => ⟨g, 0, rfl, hg.lt, fun j x hj => ?_⟩⟩
    have hjl : j < (ocls l).length := (List.getElem?_eq_some_iff.1 hj).1
    rw [ocls_length] at hjl
    rw [← h6, List.getElem?_take_of_lt (by omega), Array.getElem?_toList] at hj
    rw [Nat.zero_add, hg.cell]; exact hj
end
theorem own_same {w w' : World} {base n s : Nat} {e : TypeId} {v : Value} {xs : List Value} (h : w.ownsRow base e s v n xs) (k : ∀ g, v.ownBlock = some g → w'.heap[g]? = w.heap[g]?) : w'.ownsRow base e s v n xs := by
  refine ⟨h.1, ?_⟩
  rcases h.2 with h | ⟨g, cap, cur, h1, h2, h3, h4⟩
  · exact .inl h
  · exact .inr ⟨g, cap, cur, h1, h2, (k g (by rw [h1]; rfl)).trans h3, h4⟩
theorem own_below {w w' : World} {base n s : Nat} {e : TypeId} {v : Value} {xs : List Value} (h : w.ownsRow base e s v n xs) (k : Below w.heap.size w w') : w'.ownsRow base e s v n xs :=
  own_same h fun g hg => k.block g (h.lt g hg).2
theorem own_lower {w : World} {a b : Nat} {e : TypeId} {s : Nat} {v : Value} {n : Nat} {xs : List Value} (h : w.ownsRow a e s v n xs) (hb : b ≤ a) : w.ownsRow b e s v n xs := by
  refine ⟨h.1, ?_⟩
  rcases h.2 with h | ⟨g, cap, cur, h1, h2, h3⟩
  · exact .inl h
  · exact .inr ⟨g, cap, cur, h1, by omega, h3⟩
theorem own_type {w : World} {base n s g : Nat} {e t : TypeId} {v : Value} {xs : List Value} {cs : Array Value} (h : w.ownsRow base e s v n xs) (hg : v.ownBlock = some g) (hb : Bk w g t cs) : t = e := by
  rcases h.2 with ⟨rfl, _⟩ | ⟨g', cap, cur, rfl, _, h2, _⟩
  · cases hg
  · obtain rfl : g' = g := by simpa [Value.ownBlock] using hg
    exact (hb.uniq h2).1
theorem own_slice {w : World} {b n s : Nat} {e : TypeId} {v : Value} {xs : List Value} (h : w.ownsRow b e s v n xs) : ∃ a n' c, v = .slice a n' c := by
  rcases h.2 with ⟨rfl, _⟩ | ⟨g', cap, cur, rfl, _⟩
  · exact ⟨_, _, _, rfl⟩
  · exact ⟨_, _, _, rfl⟩
theorem own_form {w : World} {b n s : Nat} {e : TypeId} {v : Value} {xs : List Value} (h : w.ownsRow b e s v n xs) : ∃ p c, v = .slice p n c := by
  rcases h.2 with ⟨rfl, rfl⟩ | ⟨g', cap, cur, rfl, _⟩
  · exact ⟨_, _, rfl⟩
  · exact ⟨_, _, rfl⟩
theorem info_out : (Tryz.prog.info? 25).map (fun i => (i.zero, i.size, i.bytes)) = some (some (.agg #[.int .i64 0, .int .i64 0, .int .u32 0]), 3, 24) := by kernel_rfl
def I64 (i : Int) : Prop := -9223372036854775808 ≤ i ∧ i ≤ 9223372036854775807
theorem RdO.cap {w : World} {a : Option Addr} {n c : Nat} {l : List Ro} (h : RdO w (.slice a n c) l) : n = l.length ∧ l.length ≤ c ∧ c ≤ 9223372036854775807 ∧ (a = none → c = 0) := by
  obtain ⟨a', c', e, h1, h2, h3, _⟩ := h
  injection e with e1 e2 e3
  subst e1 e2 e3
  exact ⟨rfl, h1, h2, h3⟩

theorem lawO : WideMaps.KeyLaw Tryz.prog 25 := deep_law_laid (by kernel_rfl) (m := 5) (by omega) (of_decide_eq_true (by kernel_rfl)) (by kernel_rfl) (by kernel_rfl)
theorem keyedO : Maps.Keyed Tryz.prog 25 := Maps.Keyed.of_law lawO
theorem zeroI (w : World) : (zeroValue 3).run Tryz.prog w = .ok (.int .i64 0) w := by kernel_rfl
theorem lits_int {P : Program} {d : Nat} {t : TypeId} {q : IntKind} {n : Int} (ht : P.underlying t = some (.int q)) (hw : (Lit.int q n).wf = true) : P.keyLits (d + 1) t [.int q n] = some [.int q n] := by
  simp [Program.keyLits, ht, hw]
theorem keyO : Tryz.prog.keyType 25 = true := by kernel_rfl
theorem cellsO : Tryz.prog.cellsOf 25 = 3 := by kernel_rfl
theorem cellsI : Tryz.prog.cellsOf 3 = 1 := by kernel_rfl
theorem cellsU : Tryz.prog.cellsOf 22 = 1 := by kernel_rfl
theorem sizeT : ∃ d, Tryz.prog.types.size = d + 1 := ⟨Tryz.prog.types.size - 1, (Nat.sub_add_cancel (of_decide_eq_true (by kernel_rfl))).symm⟩
theorem okey_lit {k i g : Int} (h : RgO k i g) : ∃ l, keyOf Tryz.prog 25 (okey k i g) = some l := by
  obtain ⟨h1, h2, h3, h4, h5, h6⟩ := h
  have w1 : (Lit.int .i64 k).wf = true := WalkArith.wf_i64 (by omega)
  have w2 : (Lit.int .i64 i).wf = true := WalkArith.wf_i64 (by omega)
  have w3 : (Lit.int .u32 g).wf = true := WalkArith.wf_u32 (by omega)
  obtain ⟨d, hd⟩ := sizeT
  have hl : Tryz.prog.keyLits (Tryz.prog.types.size + 1) 25 [.int .i64 k, .int .i64 i, .int .u32 g] = some [.int .i64 k, .int .i64 i, .int .u32 g] := by
    rw [hd]
    unfold Program.keyLits
    rw [Tryz.underlying25]
    simp [cellsO, cellsI, cellsU, lits_int Tryz.underlying3 w1, lits_int Tryz.underlying3 w2, lits_int Tryz.underlying22 w3]
  refine ⟨.string (keyBytes [.int .i64 k, .int .i64 i, .int .u32 g]), ?_⟩
  unfold keyOf
  rw [Tryz.underlying25]
  simp only [keyO, okey, Value.formed, Value.cells, Tryz.underlying25, cellsO]
  simp only [List.size_toArray, List.length_cons, List.length_nil, Nat.reduceAdd, beq_self_eq_true, Bool.and_self, if_true]
  rw [hl]
  rfl
theorem okey_inj {k i g k' i' g' : Int} (h : okey k i g = okey k' i' g') : k = k' ∧ i = i' ∧ g = g' := by
  unfold okey at h
  simpa using h
theorem cell_stays {w w' : World} (hb : Below w.heap.size w w') {b o : Nat} {v : Value} (h : w.cell? ⟨b, o, none⟩ = some v) : w'.cell? ⟨b, o, none⟩ = some v :=
  (hb.cell (p := ⟨b, o, none⟩) (World.block_lt_of_cell? _ _ h)).trans h
theorem bel_new (w : World) (o : Obj) : Below w.heap.size w (w.alloc o) := (Below.refl _ _).alloc (Nat.le_refl _) _
end Go.Proofs.YtpinmiplefidpaaGreatDoor

namespace Go.Proofs.YtpinmiplefidpaaGreatDoor
open Go.RowKit

/-- The name is possible where there are n places. -/
def Okn (n k p g : Nat) : Prop := 1 ≤ k ∧ k ≤ 3 ∧ p < n ∧ 1 ≤ g ∧ g ≤ 4294967295
/-- The name is not possible where there are n places. -/
def Bad (n k p g : Int) : Prop := k < 1 ∨ 3 < k ∨ p < 0 ∨ n ≤ p ∨ g = 0

set_option maxHeartbeats 400000 in
theorem chk_ok (n k p g : Nat) (h : Okn n k p g) (_hn : n ≤ 256) (w : World) :
    Calls Tryz.prog 101 #[.agg #[.int .i64 k, .int .i64 p, .int .i64 g], .int .i64 n] w fun e w' => e = .returned (.int .i64 0) ∧ Below w.heap.size w w' := by
  obtain ⟨h1, h2, h3, h4, h5⟩ := h
  go_enter Tryz.func101, Tryz.ntmps101
  go_wp2_with fail
  refine (check_ok _ _ (by omega) (by omega)).mono ?_
  rintro e w1 ⟨rfl, rfl⟩
  go_wp2
  go_ret
  exact ⟨rfl, (Below.refl _ _).alloc (Nat.le_refl _) _⟩

set_option maxHeartbeats 400000 in
theorem chk_bad (n k p g : Int) (hr : RgO k p g) (hn : 0 ≤ n ∧ n ≤ 256) (h : Bad n k p g) (w : World) :
    Calls Tryz.prog 101 #[.agg #[.int .i64 k, .int .i64 p, .int .i64 g], .int .i64 n] w fun e w' => e = .returned (.int .i64 2) ∧ Below w.heap.size w w' := by
  obtain ⟨k0, k1, p0, p1, g0, g1⟩ := hr
  obtain ⟨n0, n1⟩ := hn
  by_cases hk : 1 ≤ k ∧ k ≤ 3 ∧ 0 ≤ p ∧ p < n
  · obtain ⟨h1, h2, h3, h4⟩ := hk
    obtain rfl : g = 0 := by unfold Bad at h; omega
    go_enter Tryz.func101, Tryz.ntmps101
    go_wp2_with fail
    refine (check_zero _).mono ?_
    rintro e w1 ⟨rfl, rfl⟩
    go_wp2
    go_ret
    exact ⟨rfl, (Below.refl _ _).alloc (Nat.le_refl _) _⟩
  · by_cases c1 : k < 1
    · go_enter Tryz.func101, Tryz.ntmps101
      go_wp2
      go_ret
      exact ⟨rfl, (Below.refl _ _).alloc (Nat.le_refl _) _⟩
    by_cases c2 : 3 < k
    · go_enter Tryz.func101, Tryz.ntmps101
      go_wp2
      go_ret
      exact ⟨rfl, (Below.refl _ _).alloc (Nat.le_refl _) _⟩
    by_cases c3 : p < 0
    · go_enter Tryz.func101, Tryz.ntmps101
      go_wp2
      go_ret
      exact ⟨rfl, (Below.refl _ _).alloc (Nat.le_refl _) _⟩
    have c4 : n ≤ p := by omega
    go_enter Tryz.func101, Tryz.ntmps101
    go_wp2
    go_ret
    exact ⟨rfl, (Below.refl _ _).alloc (Nat.le_refl _) _⟩

set_option maxHeartbeats 400000 in
theorem ofOuter_ok (k p g : Int) (hr : RgO k p g) (w : World) :
    Calls Tryz.prog 102 #[.agg #[.int .i64 k, .int .i64 p, .int .u32 g]] w fun e w' => e = .returned (.agg #[.int .i64 k, .int .i64 p, .int .i64 g]) ∧ Below w.heap.size w w' := by
  obtain ⟨k0, k1, p0, p1, g0, g1⟩ := hr
  go_enter Tryz.func102, Tryz.ntmps102
  go_wp2
  refine bodyPost_ret (v := .agg #[.int .i64 k, .int .i64 p, .int .i64 g]) (by simp [results, Tryz.results102, go_sem]) rfl ⟨rfl, ?_⟩
  exact ((Below.refl _ _).alloc (Nat.le_refl _) _).alloc (by simp) _
theorem Okn.rg {n k p g : Nat} (h : Okn n k p g) (hn : n ≤ 256) : RgO k p g := by
  obtain ⟨h1, h2, h3, h4, h5⟩ := h
  exact ⟨by omega, by omega, by omega, by omega, by omega, by omega⟩
theorem ok_or {n : Nat} {k p g : Int} (hr : RgO k p g) : (∃ k' p' g' : Nat, k = k' ∧ p = p' ∧ g = g' ∧ Okn n k' p' g') ∨ Bad n k p g := by
  by_cases h : Bad n k p g
  · exact .inr h
  · obtain ⟨k0, k1, p0, p1, g0, g1⟩ := hr
    unfold Bad at h
    exact .inl ⟨k.toNat, p.toNat, g.toNat, by omega, by omega, by omega, ⟨by omega, by omega, by omega, by omega, by omega⟩⟩

set_option maxHeartbeats 400000 in
theorem ochk_ok (k p g : Nat) (h : Okn 64 k p g) (w : World) :
    Calls Tryz.prog 43 #[.agg #[.int .i64 k, .int .i64 p, .int .u32 g]] w fun e w' => e = .returned (.int .i64 0) ∧ Below w.heap.size w w' := by
  have HR := Lib.hid (h.rg (by omega))
  have HH := Lib.hid h
  clear h
  go_enter Tryz.func43, Tryz.ntmps43
  go_wp2_with fail
  refine (ofOuter_ok _ _ _ HR.out _).mono ?_
  rintro e w1 ⟨rfl, hb1⟩
  go_wp2_with fail
  refine (chk_ok 64 k p g HH.out (by omega) _).mono ?_
  rintro e w2 ⟨rfl, hb2⟩
  go_wp2
  go_ret
  exact ⟨rfl, bel2 (bel2 ((Below.refl _ _).alloc (Nat.le_refl _) _) hb1) hb2⟩
set_option maxHeartbeats 400000 in
theorem ochk_bad (k p g : Int) (hr : RgO k p g) (h : Bad 64 k p g) (w : World) :
    Calls Tryz.prog 43 #[.agg #[.int .i64 k, .int .i64 p, .int .u32 g]] w fun e w' => e = .returned (.int .i64 2) ∧ Below w.heap.size w w' := by
  have HR := Lib.hid hr
  have HH := Lib.hid h
  clear h hr
  go_enter Tryz.func43, Tryz.ntmps43
  go_wp2_with fail
  refine (ofOuter_ok _ _ _ HR.out _).mono ?_
  rintro e w1 ⟨rfl, hb1⟩
  go_wp2_with fail
  refine (chk_bad 64 k p g HR.out (by omega) HH.out _).mono ?_
  rintro e w2 ⟨rfl, hb2⟩
  go_wp2
  go_ret
  exact ⟨rfl, bel2 (bel2 ((Below.refl _ _).alloc (Nat.le_refl _) _) hb1) hb2⟩


set_option maxHeartbeats 400000 in
set_option maxRecDepth 100000 in
theorem rochk_ok (k p g : Nat) (h : Okn 64 k p g) (w : World) :
    Calls Tryz.prog 71 #[.agg #[.int .i64 k, .int .i64 p, .int .u32 g]] w fun e w' => e = .returned (.int .i64 0) ∧ Below w.heap.size w w' := by
  obtain ⟨h1, h2, h3, h4, h5⟩ := h
  have hz : ((g : Int) == 0) = false := beq_eq_false_iff_ne.2 (by omega)
  go_enter Tryz.func71, Tryz.ntmps71
  go_wp2
  go_ret
  exact ⟨rfl, (Below.refl _ _).alloc (Nat.le_refl _) _⟩
set_option maxHeartbeats 400000 in
theorem rochk_bad (k p g : Int) (hr : RgO k p g) (h : Bad 64 k p g) (w : World) :
    Calls Tryz.prog 71 #[.agg #[.int .i64 k, .int .i64 p, .int .u32 g]] w fun e w' => e = .returned (.int .i64 2) ∧ Below w.heap.size w w' := by
  obtain ⟨k0, k1, p0, p1, g0, g1⟩ := hr
  unfold Bad at h
  by_cases c1 : k < 1
  · go_enter Tryz.func71, Tryz.ntmps71
    go_wp2
    go_ret
    exact ⟨rfl, (Below.refl _ _).alloc (Nat.le_refl _) _⟩
  by_cases c2 : 3 < k
  · go_enter Tryz.func71, Tryz.ntmps71
    go_wp2
    go_ret
    exact ⟨rfl, (Below.refl _ _).alloc (Nat.le_refl _) _⟩
  by_cases c3 : p < 0
  · go_enter Tryz.func71, Tryz.ntmps71
    go_wp2
    go_ret
    exact ⟨rfl, (Below.refl _ _).alloc (Nat.le_refl _) _⟩
  by_cases c4 : 64 ≤ p
  · go_enter Tryz.func71, Tryz.ntmps71
    go_wp2
    go_ret
    exact ⟨rfl, (Below.refl _ _).alloc (Nat.le_refl _) _⟩
  obtain rfl : g = 0 := by omega
  go_enter Tryz.func71, Tryz.ntmps71
  go_wp2
  go_ret
  exact ⟨rfl, (Below.refl _ _).alloc (Nat.le_refl _) _⟩
end Go.Proofs.YtpinmiplefidpaaGreatDoor
