/- Heaps by their numbers: the slots' table and the objects by their slots, and what each call comes to. Plain mathematics. -/
import Derived.Test.YtfnhkapbfgofkaaNm
namespace Go.Proofs.Ytfnhkapbfgofkaa

structure Hp where
  t : Tb
  o : Nat → Ob
structure Hp.Ok (H : Hp) : Prop where
  t : H.t.Ok
  o : ∀ i, i < H.t.n → H.t.s i = 1 → Poss (H.o i)
def putO (f : Nat → Ob) (j : Nat) (v : Ob) : Nat → Ob := fun i => if i = j then v else f i
theorem putO_same (f : Nat → Ob) (j : Nat) (v : Ob) : putO f j v j = v := by simp [putO]
theorem putO_other {f : Nat → Ob} {j i : Nat} {v : Ob} (h : i ≠ j) : putO f j v i = f i := by simp [putO, h]
def hfresh (n g : Nat) : Hp := ⟨fresh n g, fun _ => ob0⟩
theorem hfresh_ok {n g : Nat} (h1 : 1 ≤ n) (h2 : n ≤ 256) (h3 : 1 ≤ g) (h4 : g ≤ 4294967295) : (hfresh n g).Ok :=
  ⟨fresh_ok h1 h2 h3 h4, fun i _ h => by have : (hfresh n g).t.s i = 0 := rfl; omega⟩

/-- The error of a name. -/
def Hp.chk (H : Hp) (r : Rf) : Int := H.t.chk r.1 r.2
/-- The object under a name that is there. -/
def Hp.at_ (H : Hp) (r : Rf) : Ob := H.o r.1.toNat
def Hp.obj (H : Hp) (r : Rf) : Ob := if H.chk r = 0 then H.at_ r else ob0
def Hp.freed (H : Hp) (r : Rf) : Hp := ⟨H.t.given r.1 r.2, H.o⟩
open Classical in
noncomputable def Hp.mE (H : Hp) (n : Int) (h : Bool) : Int := if Poss (Go.Proofs.Ytfnhkapbfgofkaa.mk n h) then (match H.t.free with | [] => 4 | _ :: _ => 0) else 2
open Classical in
noncomputable def Hp.mR (H : Hp) (n : Int) (h : Bool) : Rf := if Poss (Go.Proofs.Ytfnhkapbfgofkaa.mk n h) then (match H.t.free with | [] => (0, 0) | i :: _ => ((i : Int), (H.t.g i : Int))) else (0, 0)
open Classical in
noncomputable def Hp.made (H : Hp) (n : Int) (h : Bool) : Hp := if Poss (Go.Proofs.Ytfnhkapbfgofkaa.mk n h) then (match H.t.free with | [] => H | i :: _ => ⟨H.t.took i, putO H.o i (Go.Proofs.Ytfnhkapbfgofkaa.mk n h)⟩) else H
noncomputable def Hp.lR (H : Hp) (r : Rf) (i : Int) : Rf := if H.chk r = 0 then (getR (H.at_ r) i).1 else (0, 0)
noncomputable def Hp.lE (H : Hp) (r : Rf) (i : Int) : Int := if H.chk r = 0 then (getR (H.at_ r) i).2 else H.chk r
/-- The error of a name that is to be stored. -/
def Hp.vE (H : Hp) (v : Rf) : Int := if v = (0, 0) then 0 else H.chk v
noncomputable def Hp.sE (H : Hp) (r : Rf) (i : Int) (v : Rf) : Int := if H.chk r = 0 then (if (getR (H.at_ r) i).2 = 0 then H.vE v else (getR (H.at_ r) i).2) else H.chk r
noncomputable def Hp.sR (H : Hp) (r : Rf) (i : Int) (v : Rf) : Rf := if H.sE r i v = 0 then (getR (H.at_ r) i).1 else (0, 0)
noncomputable def Hp.stored (H : Hp) (r : Rf) (i : Int) (v : Rf) : Hp := if H.sE r i v = 0 then ⟨H.t, putO H.o r.1.toNat ((H.at_ r).upd v i.toNat)⟩ else H

section
variable {H : Hp}
theorem Hp.chk_zero {r : Rf} (h : H.chk r = 0) : ∃ k : Nat, r.1 = k ∧ k < H.t.n ∧ H.t.s k = 1 ∧ r.2 = H.t.g k ∧ r.1.toNat = k := by
  obtain ⟨h1, h2, h3, h4⟩ := Tb.chk_zero h
  exact ⟨r.1.toNat, by omega, by omega, h3, h4.symm, rfl⟩
theorem Hp.chk_three (H : Hp) (r : Rf) : H.chk r = 0 ∨ H.chk r = 3 ∨ H.chk r = 7 := by
  unfold Hp.chk Tb.chk
  split
  · exact .inr (.inl rfl)
  · split
    · exact .inl rfl
    · exact .inr (.inr rfl)
theorem Hp.Ok.at_poss (h : H.Ok) {r : Rf} (hr : H.chk r = 0) : Poss (H.at_ r) := by
  obtain ⟨k, _, h2, h3, _, h5⟩ := Hp.chk_zero hr
  unfold Hp.at_
  rw [h5]
  exact h.o k h2 h3
theorem Hp.Ok.obj_poss (h : H.Ok) {r : Rf} (hr : H.chk r = 0) : Poss (H.obj r) := by
  unfold Hp.obj; rw [if_pos hr]; exact h.at_poss hr
/-- What is there can be stored. -/
theorem Hp.Ok.rf_ok (h : H.Ok) {r : Rf} (hr : H.chk r = 0) : RfOk r := by
  obtain ⟨k, h1, h2, _, h4, _⟩ := Hp.chk_zero hr
  have := h.t.g1 k h2
  have := h.t.gm k
  have := h.t.hi
  exact .inr ⟨by omega, by omega, by omega, by omega⟩
theorem Hp.Ok.v_ok (h : H.Ok) {v : Rf} (hv : H.vE v = 0) : RfOk v := by
  unfold Hp.vE at hv
  split at hv
  · rename_i e; exact .inl e
  · exact h.rf_ok hv
/-- What a field is. -/
theorem get_zero {o : Ob} {i : Int} (h : (getR o i).2 = 0) : Poss o ∧ 0 ≤ i ∧ i < o.n ∧ getR o i = (o.fld i.toNat, 0) := by
  by_cases hp : Poss o
  · by_cases hi : 0 ≤ i ∧ i < o.n
    · exact ⟨hp, hi.1, hi.2, get_ok hp hi⟩
    · rw [get_out hp (by omega)] at h; cases h
  · rw [get_bad hp] at h; cases h
theorem get_three {o : Ob} (hp : Poss o) {i : Int} (h : (getR o i).2 ≠ 0) : getR o i = ((0, 0), 3) := by
  by_cases hi : 0 ≤ i ∧ i < o.n
  · rw [get_ok hp hi] at h; exact absurd rfl h
  · exact get_out hp (by omega)
theorem Hp.s_zero {r v : Rf} {i : Int} (h : H.sE r i v = 0) : H.chk r = 0 ∧ (getR (H.at_ r) i).2 = 0 ∧ H.vE v = 0 := by
  unfold Hp.sE at h
  split at h
  · rename_i h1
    split at h
    · rename_i h2; exact ⟨h1, h2, h⟩
    · rename_i h2; exact absurd h h2
  · rename_i h1; exact absurd h h1
theorem Hp.Ok.freed (h : H.Ok) (r : Rf) : (H.freed r).Ok := by
  refine ⟨h.t.given _ _, fun i hi hs => ?_⟩
  have hn : (H.t.given r.1 r.2).n = H.t.n := H.t.given_n _ _
  have hi' : i < H.t.n := by rw [← hn]; exact hi
  refine h.o i hi' ?_
  have hs' : (H.t.given r.1 r.2).s i = 1 := hs
  unfold Tb.given at hs'
  split at hs'
  · unfold Tb.gave at hs'
    split at hs'
    · simp only [put] at hs'
      split at hs'
      · omega
      · exact hs'
    · simp only [put] at hs'
      split at hs'
      · omega
      · exact hs'
  · exact hs'
theorem Hp.Ok.took (h : H.Ok) {i : Nat} {o : Ob} (ho : Poss o) : Hp.Ok ⟨H.t.took i, putO H.o i o⟩ := by
  refine ⟨h.t.took i, fun k hk hs => ?_⟩
  by_cases e : k = i
  · subst e; show Poss (putO H.o k o k); rw [putO_same]; exact ho
  · show Poss (putO H.o i o k)
    rw [putO_other e]
    refine h.o k hk ?_
    have : put H.t.s i 1 k = 1 := hs
    rw [put_other e] at this
    exact this
theorem Hp.Ok.made (h : H.Ok) (n : Int) (b : Bool) : (H.made n b).Ok := by
  unfold Hp.made
  split
  · rename_i hp
    split
    · exact h
    · exact h.took hp
  · exact h
theorem Hp.Ok.repl (h : H.Ok) {i : Nat} {o : Ob} (ho : Poss o) : Hp.Ok ⟨H.t, putO H.o i o⟩ := by
  refine ⟨h.t, fun k hk hs => ?_⟩
  by_cases e : k = i
  · subst e; show Poss (putO H.o k o k); rw [putO_same]; exact ho
  · show Poss (putO H.o i o k); rw [putO_other e]; exact h.o k hk hs
theorem Hp.Ok.stored (h : H.Ok) (r : Rf) (i : Int) (v : Rf) : (H.stored r i v).Ok := by
  unfold Hp.stored
  split
  · rename_i hs
    obtain ⟨h1, h2, h3⟩ := Hp.s_zero hs
    obtain ⟨p1, p2, p3, _⟩ := get_zero h2
    exact h.repl (p1.upd (h.v_ok h3) (by omega))
  · exact h
theorem Hp.stored_t (r : Rf) (i : Int) (v : Rf) : (H.stored r i v).t = H.t := by unfold Hp.stored; split <;> rfl
theorem Hp.made_n (n : Int) (b : Bool) : (H.made n b).t.n = H.t.n := by
  unfold Hp.made
  split
  · split <;> rfl
  · rfl
theorem Hp.freed_n (r : Rf) : (H.freed r).t.n = H.t.n := H.t.given_n _ _
/-- Two heaps that show the same: the objects in the slots that are taken. -/
def Hp.Like (H K : Hp) : Prop := H.t = K.t ∧ ∀ i, i < H.t.n → H.t.s i = 1 → H.o i = K.o i
end
end Go.Proofs.Ytfnhkapbfgofkaa
