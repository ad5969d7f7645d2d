/- The layer U, joined. -/
import Derived.Test.YtpinmiplefidpaaGreatDoorMS
import Derived.Laws.AppendOwn
import Derived.Laws.AppendOwnNone
import Derived.Maps.OwnSet
import Derived.Maps.OwnRows
import Derived.DeepKeys4
import Derived.Carry
import Derived.BigQuiet
import Derived.Deep.RegionHeld3
import Derived.Shelf.RegionOpen
import Derived.Deep.WholeRow
import Derived.OrdersIn
namespace Go.Proofs.YtpinmiplefidpaaGreatDoor.BF

/-- A pool: the table of its ids, how many bytes it has, the bytes by ids (of those that are pinned). -/
structure Po where
  t : Tb
  room : Nat
  m : Nat → Nat
structure Po.Ok (P : Po) : Prop where
  t : P.t.Ok
  hi : P.t.n ≤ 64
  room : P.room ≤ 16777216
  m : ∀ i, P.m i ≤ 65536
/-- How many bytes are pinned. -/
def Po.used (P : Po) : Nat := (P.t.held.map P.m).sum
def Po.chk (P : Po) (k i g : Int) : Int := if k = 2 then P.t.chk i g else 2
def Po.size (P : Po) (k i g : Int) : Int := if P.chk k i g = 0 then P.m i.toNat else 0
/-- What Pin says. -/
def Po.can (P : Po) (x : Int) : Int := if x < 1 ∨ 65536 < x then 2 else if (P.room : Int) < P.used + x then 4 else match P.t.free with | [] => 4 | _ :: _ => 0
def Po.put (P : Po) (i x : Nat) : Po := ⟨P.t.took i, P.room, Go.Proofs.YtpinmiplefidpaaGreatDoor.put P.m i x⟩
def Po.pin (P : Po) (x : Int) : Po := if P.can x = 0 then (match P.t.free with | [] => P | i :: _ => P.put i x.toNat) else P
def Po.pK (P : Po) (x : Int) : Nat := if P.can x = 0 then 2 else 0
def Po.pI (P : Po) (x : Int) : Nat := if P.can x = 0 then (match P.t.free with | [] => 0 | i :: _ => i) else 0
def Po.pG (P : Po) (x : Int) : Nat := if P.can x = 0 then (match P.t.free with | [] => 0 | i :: _ => P.t.g i) else 0
def Po.gave (P : Po) (i : Nat) : Po := ⟨P.t.gave i, P.room, P.m⟩
def Po.unpin (P : Po) (k i g : Int) : Po := if P.chk k i g = 0 then P.gave i.toNat else P
def pfresh (n r g : Nat) : Po := ⟨fresh n g, r, fun _ => 0⟩

theorem pfresh_ok {n r g : Nat} (h1 : 1 ≤ n) (h2 : n ≤ 64) (h3 : 1 ≤ g) (h4 : g ≤ 4294967295) (h5 : r ≤ 16777216) : (pfresh n r g).Ok := ⟨fresh_ok h1 (by omega) h3 h4, h2, h5, fun _ => Nat.zero_le _⟩
theorem Po.Ok.put {P : Po} (h : P.Ok) (i : Nat) {x : Nat} (hx : x ≤ 65536) : (P.put i x).Ok :=
  ⟨h.t.took i, h.hi, h.room, fun k => by have := h.m k; simp only [Po.put, Go.Proofs.YtpinmiplefidpaaGreatDoor.put]; split <;> omega⟩
theorem Po.Ok.gave {P : Po} (h : P.Ok) (i : Nat) : (P.gave i).Ok :=
  ⟨h.t.gave i, by simp only [Po.gave, Tb.gave_n]; exact h.hi, h.room, h.m⟩
theorem Po.Ok.unpin {P : Po} (h : P.Ok) (k i g : Int) : (P.unpin k i g).Ok := by unfold Po.unpin; split; exact h.gave _; exact h
theorem Po.can_zero {P : Po} {x : Int} (h : P.can x = 0) : 1 ≤ x ∧ x ≤ 65536 ∧ (P.used : Int) + x ≤ P.room ∧ ∃ i r, P.t.free = i :: r := by
  unfold Po.can at h
  split at h
  · omega
  · split at h
    · omega
    · split at h
      · omega
      · rename_i i r e; exact ⟨by omega, by omega, by omega, i, r, e⟩
theorem Po.pin_zero {P : Po} {x : Int} (h : P.can x = 0) {i : Nat} {r : List Nat} (e : P.t.free = i :: r) : P.pin x = P.put i x.toNat ∧ P.pK x = 2 ∧ P.pI x = i ∧ P.pG x = P.t.g i := by
  unfold Po.pin Po.pK Po.pI Po.pG
  simp only [if_pos h, e]
  exact ⟨trivial, trivial, trivial, trivial⟩
theorem Po.pin_ne {P : Po} {x : Int} (h : P.can x ≠ 0) : P.pin x = P ∧ P.pK x = 0 ∧ P.pI x = 0 ∧ P.pG x = 0 := by
  unfold Po.pin Po.pK Po.pI Po.pG
  simp only [if_neg h]
  exact ⟨trivial, trivial, trivial, trivial⟩
theorem Po.Ok.pin {P : Po} (h : P.Ok) (x : Int) : (P.pin x).Ok := by
  by_cases e : P.can x = 0
  · obtain ⟨h1, h2, _, i, r, hf⟩ := Po.can_zero e
    rw [(Po.pin_zero e hf).1]
    exact h.put i (by omega)
  · rw [(Po.pin_ne e).1]; exact h
/-- The three ways of Pin. -/
theorem Po.can_cases (P : Po) (x : Int) : ((x < 1 ∨ 65536 < x) ∧ P.can x = 2) ∨ (1 ≤ x ∧ x ≤ 65536 ∧ (P.room : Int) < P.used + x ∧ P.can x = 4) ∨ (1 ≤ x ∧ x ≤ 65536 ∧ (P.used : Int) + x ≤ P.room ∧ P.t.free = [] ∧ P.can x = 4) ∨ (1 ≤ x ∧ x ≤ 65536 ∧ (P.used : Int) + x ≤ P.room ∧ ∃ i r, P.t.free = i :: r ∧ P.can x = 0) := by
  unfold Po.can
  by_cases h : x < 1 ∨ 65536 < x
  · exact .inl ⟨h, if_pos h⟩
  · rw [if_neg h]
    by_cases h2 : (P.room : Int) < P.used + x
    · exact .inr (.inl ⟨by omega, by omega, h2, if_pos h2⟩)
    · rw [if_neg h2]
      cases e : P.t.free with
      | nil => exact .inr (.inr (.inl ⟨by omega, by omega, by omega, rfl, rfl⟩))
      | cons i r => exact .inr (.inr (.inr ⟨by omega, by omega, by omega, i, r, rfl, rfl⟩))
theorem Po.unpin_n (P : Po) (k i g : Int) : (P.unpin k i g).t.n = P.t.n := by unfold Po.unpin; split; exact P.t.gave_n _; rfl
theorem Po.pin_n (P : Po) (x : Int) : (P.pin x).t.n = P.t.n := by
  by_cases e : P.can x = 0
  · obtain ⟨_, _, _, i, r, hf⟩ := Po.can_zero e
    rw [(Po.pin_zero e hf).1]; rfl
  · rw [(Po.pin_ne e).1]

theorem sum_le (l : List Nat) (f : Nat → Nat) (c : Nat) (h : ∀ i ∈ l, f i ≤ c) : (l.map f).sum ≤ l.length * c := by
  induction l with
  | nil => simp
  | cons a l ih =>
    have h1 := h a (by simp)
    have h2 := ih fun i hi => h i (by simp [hi])
    simp only [List.map_cons, List.sum_cons, List.length_cons, Nat.add_mul, Nat.one_mul]
    omega
theorem Po.Ok.held_len {P : Po} (h : P.Ok) : P.t.held.length ≤ 64 := by have := sel_len P.t.s 1 P.t.n; have := h.hi; unfold Tb.held; omega
theorem Po.Ok.used_le {P : Po} (h : P.Ok) : P.used ≤ 4194304 := by
  have h1 := sum_le P.t.held P.m 65536 fun i _ => h.m i
  have h2 := h.held_len
  unfold Po.used
  omega
/-- The sum over the buffers that come first. -/
theorem Po.used_now (P : Po) : (P.t.now.map fun r => P.m r.1).sum = P.used := by
  unfold Po.used Tb.now Tb.refs
  rw [List.map_map]; rfl

theorem Po.chk_pinned {P : Po} {k i g : Int} (h : P.chk k i g = 0) : k = 2 ∧ ∃ j : Nat, i = j ∧ j < P.t.n ∧ P.t.s j = 1 ∧ (P.t.g j : Int) = g := by
  unfold Po.chk at h
  split at h
  · rename_i e
    obtain ⟨h3, h4, h5, h6⟩ := Tb.chk_zero h
    exact ⟨e, i.toNat, by omega, by omega, h5, h6⟩
  · omega
theorem Po.chk_held {P : Po} {i : Nat} (h1 : i < P.t.n) (h2 : P.t.s i = 1) : P.chk 2 i (P.t.g i) = 0 := by
  unfold Po.chk
  rw [if_pos rfl, Tb.chk_held h1 h2]
theorem Po.size_held {P : Po} {i : Nat} (h1 : i < P.t.n) (h2 : P.t.s i = 1) : P.size 2 i (P.t.g i) = P.m i := by
  unfold Po.size
  rw [if_pos (Po.chk_held h1 h2), Int.toNat_natCast]
theorem Po.unpin_held {P : Po} {i : Nat} (h1 : i < P.t.n) (h2 : P.t.s i = 1) : P.unpin 2 i (P.t.g i) = P.gave i := by
  unfold Po.unpin
  rw [if_pos (Po.chk_held h1 h2), Int.toNat_natCast]
theorem Po.chk_vals (P : Po) (k i g : Int) : P.chk k i g = 0 ∨ P.chk k i g = 2 ∨ P.chk k i g = 3 ∨ P.chk k i g = 7 := by
  unfold Po.chk Tb.chk
  split
  · split
    · simp
    · split <;> simp
  · simp
end Go.Proofs.YtpinmiplefidpaaGreatDoor.BF

namespace Go.Proofs.YtpinmiplefidpaaGreatDoor.BF
open Go.RowKit


/-! ### resources in cells -/
/-- The names of buffers: what All returns. -/
def bro (r : Nat × Nat) : Ro := ⟨2, r.1, r.2⟩
def Po.all (P : Po) : List Ro := P.t.now.map bro
theorem Po.all_len (P : Po) : P.all.length = P.t.held.length := by simp [Po.all, Tb.now_len]
theorem Po.all_at {P : Po} {j : Nat} {o : Ro} (h : P.all[j]? = some o) : ∃ i : Nat, o = ⟨2, i, P.t.g i⟩ ∧ i < P.t.n ∧ P.t.s i = 1 := by
  simp only [Po.all, List.getElem?_map, Option.map_eq_some_iff] at h
  obtain ⟨r, h1, rfl⟩ := h
  obtain ⟨h2, h3, h4⟩ := Tb.now_at h1
  exact ⟨r.1, by simp [bro, h4], h2, h3⟩

/-! ### slices of resources -/
section
variable {w w' : World} {v : Value} {l : List Ro}
end

/-! ### a pool of the program's -/
/-- What the cell at j of a space holds whose table is at v. -/
def scell (v : Value) (r : Nat) (m : Nat → Nat) (j : Nat) : Value := if j = 0 then v else if j = 1 then .int .i64 r else .int .i64 (m (j - 2))
def scells (v : Value) (r : Nat) (m : Nat → Nat) : Array Value := ((List.range 66).map (scell v r m)).toArray
theorem scells_size (v : Value) (r : Nat) (m : Nat → Nat) : (scells v r m).size = 66 := by simp [scells]
theorem scells_at (v : Value) (r : Nat) (m : Nat → Nat) {j : Nat} (h : j < 66) : (scells v r m)[j]? = some (scell v r m j) := by simp [scells, h]
theorem scell_m (v : Value) (r : Nat) (m : Nat → Nat) (i : Nat) : scell v r m (2 + i) = .int .i64 (m i) := by
  have h1 : 2 + i ≠ 0 := by omega
  have h2 : 2 + i ≠ 1 := by omega
  have h3 : 2 + i - 2 = i := by omega
  simp only [scell, h1, h2, h3, if_false]
theorem scells_ext {v v' x : Value} {r r' : Nat} {m m' : Nat → Nat} {k : Nat} (h : ∀ j, j < 66 → scell v' r' m' j = if k = j then x else scell v r m j) : (scells v r m).setIfInBounds k x = scells v' r' m' := by
  refine Array.ext_getElem? fun j => ?_
  rw [Array.getElem?_setIfInBounds]
  by_cases hj : j < 66
  · rw [scells_at v' r' m' hj, h j hj, scells_at v r m hj, scells_size]
    by_cases e : k = j
    · subst e; simp [hj]
    · simp [e]
  · have h1 : (scells v' r' m')[j]? = none := by rw [Array.getElem?_eq_none]; rw [scells_size]; omega
    have h2 : (scells v r m)[j]? = none := by rw [Array.getElem?_eq_none]; rw [scells_size]; omega
    rw [h1, h2, scells_size]
    by_cases e : k = j
    · rw [if_pos e, if_neg (by omega)]
    · rw [if_neg e]
theorem scells_put_m (v : Value) (r : Nat) (m : Nat → Nat) (i x : Nat) : (scells v r m).setIfInBounds (2 + i) (.int .i64 x) = scells v r (put m i x) := by
  refine scells_ext fun j hj => ?_
  by_cases e : 2 + i = j
  · subst e; rw [if_pos rfl, scell_m, put_same]
  · rw [if_neg e]
    unfold scell
    by_cases h0 : j = 0
    · rw [if_pos h0, if_pos h0]
    · rw [if_neg h0, if_neg h0]
      by_cases h1 : j = 1
      · rw [if_pos h1, if_pos h1]
      · rw [if_neg h1, if_neg h1, put_other (by omega)]
theorem scells_put_0 (v u : Value) (r : Nat) (m : Nat → Nat) : (scells v r m).setIfInBounds 0 u = scells u r m := by
  refine scells_ext fun j hj => ?_
  by_cases e : 0 = j
  · subst e; rw [if_pos rfl]; rfl
  · rw [if_neg e]
    unfold scell
    have h0 : ¬ j = 0 := fun h => e h.symm
    rw [if_neg h0, if_neg h0]
theorem scells_put_1 (v : Value) (r q : Nat) (m : Nat → Nat) : (scells v r m).setIfInBounds 1 (.int .i64 q) = scells v q m := by
  refine scells_ext fun j hj => ?_
  by_cases e : 1 = j
  · subst e; rw [if_pos rfl]; rfl
  · rw [if_neg e]
    unfold scell
    have h0 : ¬ j = 1 := fun h => e h.symm
    rw [if_neg h0, if_neg h0]

/-- The pool at b, its space at s, its table of slots at k. -/
structure PW (w : World) (b s k : Nat) (P : Po) : Prop where
  ok : P.Ok
  hb : Bk w b 159 #[.pointer (some ⟨s, 0, none⟩)]
  hs : Bk w s 157 (scells (.pointer (some ⟨k, 0, none⟩)) P.room P.m)
  tab : TabW w k P.t
def PFoot (b s k : Nat) (g : Nat) : Prop := g = b ∨ g = s ∨ g = k
section
variable {w w' : World} {b s k : Nat} {P : Po}
theorem PW.foot_lt (h : PW w b s k P) {g : Nat} (hg : PFoot b s k g) : g < w.heap.size := by
  rcases hg with rfl | rfl | rfl
  · exact h.hb.lt
  · exact h.hs.lt
  · exact h.tab.bt
theorem PW.same (h : PW w b s k P) (e : ∀ g, PFoot b s k g → w'.heap[g]? = w.heap[g]?) : PW w' b s k P := ⟨h.ok, h.hb.same (e b (.inl rfl)), h.hs.same (e s (.inr (.inl rfl))), h.tab.same (e k (.inr (.inr rfl)))⟩
theorem PW.kept {S : Nat → Prop} (h : PW w b s k P) (q : Kept S w w') (hs : ∀ g, PFoot b s k g → ¬ S g) : PW w' b s k P := h.same fun g hg => q.block g (h.foot_lt hg) (hs g hg)
theorem PW.below (h : PW w b s k P) (q : Below w.heap.size w w') : PW w' b s k P := h.same fun g hg => q.block g (h.foot_lt hg)
theorem PW.drewN (h : PW w b s k P) (n : Nat) : PW (w.drewN n) b s k P := h.same fun _ _ => rfl
theorem PW.bs (h : PW w b s k P) : b ≠ s := by rintro rfl; exact absurd (h.hb.uniq h.hs).1 (by decide)
theorem PW.bk (h : PW w b s k P) : b ≠ k := by rintro rfl; exact absurd (h.hb.uniq h.tab.bk).1 (by decide)
theorem PW.sk (h : PW w b s k P) : s ≠ k := by rintro rfl; exact absurd (h.hs.uniq h.tab.bk).1 (by decide)
theorem PW.c0 (h : PW w b s k P) : w.cell? ⟨b, 0, none⟩ = some (.pointer (some ⟨s, 0, none⟩)) := h.hb.cell 0
theorem PW.s0 (h : PW w b s k P) : w.cell? ⟨s, 0, none⟩ = some (.pointer (some ⟨k, 0, none⟩)) := by rw [h.hs.cell, scells_at _ _ _ (by omega)]; rfl
theorem PW.s1 (h : PW w b s k P) : w.cell? ⟨s, 1, none⟩ = some (.int .i64 P.room) := by rw [h.hs.cell, scells_at _ _ _ (by omega)]; rfl
theorem PW.sm (h : PW w b s k P) {i : Nat} (hi : i < 64) : w.cell? ⟨s, 2 + i, none⟩ = some (.int .i64 (P.m i)) := by rw [h.hs.cell, scells_at _ _ _ (by omega), scell_m]
theorem PW.fz (h : PW w b s k P) (i : Nat) : w.frozen? ⟨s, i, none⟩ = false := h.hs.frozen i
end
/-- A pool that New or Copy did not make: nil, or the zero one. -/
def PInv (w : World) (v : Option Addr) : Prop := v = none ∨ ∃ b, v = some ⟨b, 0, none⟩ ∧ Bk w b 159 #[.pointer none]
theorem PInv.below {w w' : World} {v : Option Addr} (h : PInv w v) (hb : Below w.heap.size w w') : PInv w' v := by
  rcases h with rfl | ⟨b, rfl, h⟩
  · exact .inl rfl
  · exact .inr ⟨b, rfl, h.below hb⟩
end Go.Proofs.YtpinmiplefidpaaGreatDoor.BF

namespace Go.Proofs.YtpinmiplefidpaaGreatDoor.BF
open Go.RowKit

/-! ### valid -/
set_option maxRecDepth 100000 in
theorem pvalid_no (p : Option Addr) (w : World) (h : PInv w p) : Calls Tryz.prog 177 #[.pointer p] w fun e w' => e = .returned (.bool false) ∧ w = w' := by
  rcases h with rfl | ⟨b, rfl, h⟩
  · go_enter Tryz.func177, Tryz.ntmps177
    go_wp2
    go_ret
    exact ⟨rfl, rfl⟩
  · have hc : w.cell? ⟨b, 0, none⟩ = some (.pointer none) := h.cell 0
    clear h
    go_enter Tryz.func177, Tryz.ntmps177
    go_wp2
    go_ret
    exact ⟨rfl, rfl⟩
set_option maxRecDepth 100000 in
theorem pvalid_yes (b s : Nat) (w : World) (hc : w.cell? ⟨b, 0, none⟩ = some (.pointer (some ⟨s, 0, none⟩))) : Calls Tryz.prog 177 #[.pointer (some ⟨b, 0, none⟩)] w fun e w' => e = .returned (.bool true) ∧ w = w' := by
  go_enter Tryz.func177, Tryz.ntmps177
  go_wp2
  go_ret
  exact ⟨rfl, rfl⟩

/-! ### buffer -/
set_option maxRecDepth 100000 in
theorem buffer_ok (i g : Int) (w : World) (_g0 : 0 ≤ g) (_g1 : g ≤ 4294967295) (_i0 : 0 ≤ i) (_i1 : i ≤ 256) :
    Calls Tryz.prog 178 #[.agg #[.int .i64 i, .int .u32 g]] w fun e w' => e = .returned (.agg #[.int .i64 2, .int .i64 i, .int .u32 g]) ∧ Below w.heap.size w w' := by
  go_enter Tryz.func178, Tryz.ntmps178
  go_wp2
  refine bodyPost_ret (v := .agg #[.int .i64 2, .int .i64 i, .int .u32 g]) (by simp [results, Tryz.results178, go_sem]) rfl ⟨rfl, ?_⟩
  exact ((Below.refl _ _).alloc (Nat.le_refl _) _).alloc (by simp) _

/-! ### held -/
theorem box_of {w w2 : World} {t : TypeId} {cs : Array Value} (hb : Below (w.alloc (.cells cs t)).heap.size (w.alloc (.cells cs t)) w2) : Bk w2 w.heap.size t cs := (Bk.new w t cs).below hb
def HeldV (i g E : Int) (w : World) (e : Ending) (w' : World) : Prop := e = .returned (.tuple #[.agg #[.int .i64 i, .int .u32 g], .int .i64 E]) ∧ Below w.heap.size w w'
/-- The boxes that held lays. -/
theorem held_boxes (w : World) (x y z : Int) {w1 : World} (h : (w.alloc (.cells #[.int .i64 x, .int .i64 y, .int .u32 z] 25)).alloc (.cells #[.int .i64 0, .int .u32 0] 193) = w1) :
    Bk w1 (w.heap.size + 1) 193 #[.int .i64 0, .int .u32 0] ∧ w1.heap.size = w.heap.size + 2 ∧ Below w.heap.size w w1 := by
  subst h
  have b1 := Bk.new (w.alloc (.cells #[.int .i64 x, .int .i64 y, .int .u32 z] 25)) 193 #[.int .i64 0, .int .u32 0]
  rw [World.size_alloc] at b1
  exact ⟨b1, by simp, ((Below.refl _ w).alloc (Nat.le_refl _) _).alloc (by simp) _⟩
set_option maxHeartbeats 1000000 in
set_option maxRecDepth 100000 in
theorem pheld_inv (p : Option Addr) (x y z : Int) (w : World) (h : PInv w p) : Calls Tryz.prog 207 #[.pointer p, .agg #[.int .i64 x, .int .i64 y, .int .u32 z]] w (HeldV 0 0 1 w) := by
  obtain ⟨w1, hw1⟩ : ∃ w1, (w.alloc (.cells #[.int .i64 x, .int .i64 y, .int .u32 z] 25)).alloc (.cells #[.int .i64 0, .int .u32 0] 193) = w1 := ⟨_, rfl⟩
  obtain ⟨k1, k2, k3⟩ := held_boxes w x y z hw1
  have H := Lib.hid (h.below k3)
  rw [← hw1] at H
  clear h hw1 k1 k2 k3
  go_enter Tryz.func207, Tryz.ntmps207
  go_wp2_with (go_at_call 177; refine (pvalid_no _ _ H.out).mono ?_; rintro e w' ⟨rfl, rfl⟩)
  refine bodyPost_ret (v := .tuple #[.agg #[.int .i64 0, .int .u32 0], .int .i64 1]) (by simp [results, Tryz.results207, go_sem]) rfl ⟨rfl, ?_⟩
  exact ((Below.refl _ w).alloc (Nat.le_refl _) _).alloc (by simp) _
set_option maxHeartbeats 1000000 in
set_option maxRecDepth 100000 in
theorem pheld_kind (b s k : Nat) (P : Po) (x y z : Int) (hk : x ≠ 2) (w : World) (h : PW w b s k P) : Calls Tryz.prog 207 #[.pointer (some ⟨b, 0, none⟩), .agg #[.int .i64 x, .int .i64 y, .int .u32 z]] w (HeldV 0 0 2 w) := by
  obtain ⟨w1, hw1⟩ : ∃ w1, (w.alloc (.cells #[.int .i64 x, .int .i64 y, .int .u32 z] 25)).alloc (.cells #[.int .i64 0, .int .u32 0] 193) = w1 := ⟨_, rfl⟩
  obtain ⟨k1, k2, k3⟩ := held_boxes w x y z hw1
  have H := Lib.hid (h.below k3).c0
  rw [← hw1] at H
  have hx : (x != 2) = true := by simpa using hk
  clear h hw1 k1 k2 k3 hk
  go_enter Tryz.func207, Tryz.ntmps207
  go_wp2_with (go_at_call 177; refine (pvalid_yes _ s _ H.out).mono ?_; rintro e w' ⟨rfl, rfl⟩)
  refine bodyPost_ret (v := .tuple #[.agg #[.int .i64 0, .int .u32 0], .int .i64 2]) (by simp [results, Tryz.results207, go_sem]) rfl ⟨rfl, ?_⟩
  exact ((Below.refl _ w).alloc (Nat.le_refl _) _).alloc (by simp) _
def HeldA (i g E : Int) (w : World) (e : Ending) (w' : World) : Prop := (E = 0 → HeldV i g 0 w e w') ∧ (E ≠ 0 → HeldV 0 0 E w e w')
/-- Two cells written. -/
theorem two_put {W : World} {g : Nat} {t : TypeId} {a b : Value} (h : Bk W g t #[a, b]) (x y : Value) : Bk ((W.setCell ⟨g, 0, none⟩ x).setCell ⟨g, 1, none⟩ y) g t #[x, y] := (h.put 0 x).put 1 y
set_option maxHeartbeats 2000000 in
set_option maxRecDepth 100000 in
theorem pheld_any (b s k : Nat) (P : Po) (y z : Int) (w : World) (h : PW w b s k P) : Calls Tryz.prog 207 #[.pointer (some ⟨b, 0, none⟩), .agg #[.int .i64 2, .int .i64 y, .int .u32 z]] w (HeldA y z (P.t.chk y z) w) := by
  obtain ⟨w1, hw1⟩ : ∃ w1, (w.alloc (.cells #[.int .i64 2, .int .i64 y, .int .u32 z] 25)).alloc (.cells #[.int .i64 0, .int .u32 0] 193) = w1 := ⟨_, rfl⟩
  obtain ⟨k1, k2, k3⟩ := held_boxes w 2 y z hw1
  have H := Lib.hid (h.below k3).c0
  rw [← hw1] at H
  obtain ⟨w4, hw4⟩ : ∃ w4, w1.alloc (.cells #[.int .i64 y, .int .u32 z] 193) = w4 := ⟨_, rfl⟩
  have k4 : Below w1.heap.size w1 w4 := by rw [← hw4]; exact (Below.refl _ _).alloc (Nat.le_refl _) _
  have B4 : Below w.heap.size w w4 := bel2 k3 k4
  have n4 : Bk w4 (w.heap.size + 2) 193 #[.int .i64 y, .int .u32 z] := by rw [← hw4, ← k2]; exact Bk.new w1 _ _
  have HS : Hid (∀ W, Below w4.heap.size w4 W → W.cell? ⟨b, 0, none⟩ = some (.pointer (some ⟨s, 0, none⟩)) ∧ W.cell? ⟨s, 0, none⟩ = some (.pointer (some ⟨k, 0, none⟩)) ∧ W.cell? ⟨w.heap.size + 2, 0, none⟩ = some (.int .i64 y) ∧ W.cell? ⟨w.heap.size + 2, 1, none⟩ = some (.int .u32 z) ∧ Bk W (w.heap.size + 1) 193 #[.int .i64 0, .int .u32 0] ∧ Below w.heap.size w W) := fun W hW =>
    ⟨((h.below B4).below hW).c0, ((h.below B4).below hW).s0, (n4.below hW).cell 0, (n4.below hW).cell 1, (k1.below k4).below hW, bel2 B4 hW⟩
  obtain ⟨E, hE⟩ : ∃ E, P.t.chk y z = E := ⟨_, rfl⟩
  have CK : Hid (∀ W, Below w.heap.size w W → Calls Tryz.prog 141 #[.pointer (some ⟨k, 0, none⟩), .agg #[.int .i64 y, .int .u32 z]] W fun e w' => e = .returned (.int .i64 E) ∧ Below W.heap.size W w') := fun W hW => by
    have := check_any k P.t y z W (h.below hW).tab
    rw [hE] at this; exact this
  rw [hE]
  have HW4 : Hid (((w.alloc (.cells #[.int .i64 2, .int .i64 y, .int .u32 z] 25)).alloc (.cells #[.int .i64 0, .int .u32 0] 193)).alloc (.cells #[.int .i64 y, .int .u32 z] 193) = w4) := by rw [hw1]; exact hw4
  have HB4 := Lib.hid B4
  clear h hw1 hw4 k1 k2 k3 k4 n4 hE B4
  go_enter Tryz.func207, Tryz.ntmps207
  go_wp2_with (go_at_call 177; refine (pvalid_yes _ s _ H.out).mono ?_; rintro e w' ⟨rfl, rfl⟩)
  rw [HW4.out]
  obtain ⟨s0, s1, s2, s3, _⟩ := HS.out w4 (Below.refl _ _)
  go_region_held3 (fun W => W.cell? ⟨b, 0, none⟩ = some (.pointer (some ⟨s, 0, none⟩)) ∧ W.cell? ⟨s, 0, none⟩ = some (.pointer (some ⟨k, 0, none⟩)) ∧ W.cell? ⟨w.heap.size + 2, 0, none⟩ = some (.int .i64 y) ∧ W.cell? ⟨w.heap.size + 2, 1, none⟩ = some (.int .u32 z)) (first | (exact ⟨s0, s1, s2, s3⟩) | (with_reducible exact hz1)) (first
    | (go_at_call 141; (with_reducible refine (CK.out _ (bel_drew HB4.out)).mono ?_); rintro e w5 ⟨rfl, hb5⟩; have HS5 := HS.out w5 (bel2 (bel_drew (Below.refl _ w4)) hb5); have hz1 := And.intro HS5.1 (And.intro HS5.2.1 (And.intro HS5.2.2.1 HS5.2.2.2.1)); have HB5 := Lib.hid HS5.2.2.2.2; clear hb5 HS5))
  all_goals
    obtain ⟨q1, q2⟩ := HB5.out
    obtain ⟨z1, z2, z3, z4⟩ := hz1
    have d0 := q1.cell 0
    have d1 := q1.cell 1
    have f0 := q1.frozen 0
    have f1 := q1.frozen 1
    simp only [List.getElem?_toArray, List.getElem?_cons_zero, List.getElem?_cons_succ] at d0 d1
    by_cases hE : E = 0
    · subst hE
      have t := two_put q1 (.int .i64 y) (.int .u32 z)
      have HT := Lib.hid t
      have HQ := Lib.hid q2
      clear t q1 q2
      go_wp2
      have t0 := HT.out.cell 0
      have t1 := HT.out.cell 1
      simp only [List.getElem?_toArray, List.getElem?_cons_zero, List.getElem?_cons_succ] at t0 t1
      refine bodyPost_ret (v := .tuple #[.agg #[.int .i64 y, .int .u32 z], .int .i64 0]) (by simp [results, Tryz.results207, go_sem, t0, t1]) rfl ⟨fun _ => ⟨rfl, ?_⟩, fun h => absurd rfl h⟩
      exact (HQ.out.setCell (p := ⟨_, _, none⟩) (by simp) _).setCell (p := ⟨_, _, none⟩) (by simp) _
    · have hE1 : (E != 0) = true := by simpa using hE
      have t := two_put q1 (.int .i64 0) (.int .u32 0)
      have HT := Lib.hid t
      have HQ := Lib.hid q2
      clear t q1 q2
      have HE := Lib.hid hE
      clear hE
      go_wp2
      have t0 := HT.out.cell 0
      have t1 := HT.out.cell 1
      simp only [List.getElem?_toArray, List.getElem?_cons_zero, List.getElem?_cons_succ] at t0 t1
      refine bodyPost_ret (v := .tuple #[.agg #[.int .i64 0, .int .u32 0], .int .i64 E]) (by simp [results, Tryz.results207, go_sem, t0, t1]) rfl ⟨fun h => absurd h HE.out, fun _ => ⟨rfl, ?_⟩⟩
      exact (HQ.out.setCell (p := ⟨_, _, none⟩) (by simp) _).setCell (p := ⟨_, _, none⟩) (by simp) _
theorem Po.chk_two (P : Po) (y z : Int) : P.chk 2 y z = P.t.chk y z := if_pos rfl
/-- held, whatever is asked. -/
theorem pheld_yes (b s k : Nat) (P : Po) (x y z : Int) (w : World) (h : PW w b s k P) (hc : P.chk x y z = 0) : Calls Tryz.prog 207 #[.pointer (some ⟨b, 0, none⟩), .agg #[.int .i64 x, .int .i64 y, .int .u32 z]] w (HeldV y z 0 w) := by
  obtain ⟨rfl, _⟩ := Po.chk_pinned hc
  exact (pheld_any b s k P y z w h).mono fun e w' h => h.1 (by rw [← Po.chk_two]; exact hc)
theorem pheld_no (b s k : Nat) (P : Po) (x y z : Int) (w : World) (h : PW w b s k P) (hc : P.chk x y z ≠ 0) : Calls Tryz.prog 207 #[.pointer (some ⟨b, 0, none⟩), .agg #[.int .i64 x, .int .i64 y, .int .u32 z]] w (HeldV 0 0 (P.chk x y z) w) := by
  by_cases e : x = 2
  · subst e
    rw [Po.chk_two] at hc ⊢
    exact (pheld_any b s k P y z w h).mono fun e w' h => h.2 hc
  · have e2 : P.chk x y z = 2 := if_neg e
    rw [e2]; exact pheld_kind b s k P x y z e w h
end Go.Proofs.YtpinmiplefidpaaGreatDoor.BF

namespace Go.Proofs.YtpinmiplefidpaaGreatDoor.BF
open Go.RowKit

/-! ### New -/
theorem zero_space (w : World) : (zeroValue 157).run Tryz.prog w = .ok (.agg (scells (.pointer none) 0 (fun _ => 0))) w := by kernel_rfl
theorem scells_ne (v : Value) (r : Nat) (m : Nat → Nat) : ¬ scells v r m = #[] := fun h => by have := congrArg Array.size h; rw [scells_size] at this; simp at this
/-- A new pool. -/
def PNew (P : Po) (w : World) (b : Nat) (w' : World) : Prop := ∃ s k, PW w' b s k P ∧ (∀ g, PFoot b s k g → w.heap.size ≤ g) ∧ Below w.heap.size w w'
theorem pnew_fin {w W : World} {P : Po} {k : Nat} (hP : P.Ok) (hB : Below w.heap.size w W) (hk : w.heap.size ≤ k) (hT : TabW W k P.t) :
    PNew P w (W.heap.size + 1) ((W.alloc (.cells (scells (.pointer (some ⟨k, 0, none⟩)) P.room P.m) 157)).alloc (.cells #[.pointer (some ⟨W.heap.size, 0, none⟩)] 159)) := by
  have b1 := Bk.new W 157 (scells (.pointer (some ⟨k, 0, none⟩)) P.room P.m)
  have b2 := Bk.new (W.alloc (.cells (scells (.pointer (some ⟨k, 0, none⟩)) P.room P.m) 157)) 159 #[.pointer (some ⟨W.heap.size, 0, none⟩)]
  rw [World.size_alloc] at b2
  have hs := hB.size
  have hb2 : Below W.heap.size W ((W.alloc (.cells (scells (.pointer (some ⟨k, 0, none⟩)) P.room P.m) 157)).alloc (.cells #[.pointer (some ⟨W.heap.size, 0, none⟩)] 159)) := ((Below.refl _ _).alloc (Nat.le_refl _) _).alloc (by simp) _
  refine ⟨W.heap.size, k, ⟨hP, b2, b1.up _, hT.below hb2⟩, ?_, hB.trans (hb2.mono hs)⟩
  rintro x (rfl | rfl | rfl)
  · omega
  · exact hs
  · exact hk
set_option maxRecDepth 100000 in
set_option maxHeartbeats 1000000 in
theorem pnew_ok (n r g : Nat) (w : World) (h1 : 1 ≤ n) (h2 : n ≤ 64) (h3 : 1 ≤ g) (h4 : g ≤ 4294967295) (h5 : 1 ≤ r) (h6 : r ≤ 16777216) :
    Calls Tryz.prog 52 #[.int .i64 n, .int .i64 r, .int .u32 g] w fun e w' => ∃ b, e = .returned (.tuple #[.pointer (some ⟨b, 0, none⟩), .int .i64 0]) ∧ PNew (pfresh n r g) w b w' := by
  have hz := zero_space
  obtain ⟨zs, hzs⟩ : ∃ zs, scells (.pointer none) 0 (fun _ => 0) = zs := ⟨_, rfl⟩
  have hsz : zs.size = 66 := by rw [← hzs]; exact scells_size _ _ _
  have hne : ¬ zs = #[] := by rw [← hzs]; exact scells_ne _ _ _
  simp only [hzs] at hz
  have HZ : Hid (∀ v, (zs.setIfInBounds 0 v).setIfInBounds 1 (.int .i64 r) = scells v r (fun _ => 0)) := fun v => by rw [← hzs, scells_put_0, scells_put_1]
  have NW := Lib.hid (new_ok n g w h1 (by omega) h3 h4)
  have FIN : Hid (∀ W, Below w.heap.size w W → TabW W w.heap.size (fresh n g) → PNew (pfresh n r g) w (W.heap.size + 1) ((W.alloc (.cells (scells (.pointer (some ⟨w.heap.size, 0, none⟩)) r (fun _ => 0)) 157)).alloc (.cells #[.pointer (some ⟨W.heap.size, 0, none⟩)] 159))) := fun W hB hT => pnew_fin (P := pfresh n r g) (pfresh_ok h1 h2 h3 h4 h6) hB (Nat.le_refl _) hT
  clear hzs
  go_enter Tryz.func52, Tryz.ntmps52
  go_wp2_with (go_at_call 104; refine NW.out.mono ?_; rintro e w1 ⟨rfl, hT, hB⟩; have HF := Lib.hid (FIN.out w1 hB hT); clear hT hB)
  go_ret2
  have := HF.out
  rw [← HZ.out] at this
  exact ⟨_, rfl, this⟩
/-- New where the arguments are not possible. -/
def PBad (n r g : Int) : Prop := n < 1 ∨ 64 < n ∨ r < 1 ∨ 16777216 < r ∨ g = 0
set_option maxRecDepth 100000 in
theorem pnew_bad (n r g : Int) (w : World) (hn : I64 n) (hr : I64 r) (hg : 0 ≤ g ∧ g ≤ 4294967295) (h : PBad n r g) :
    Calls Tryz.prog 52 #[.int .i64 n, .int .i64 r, .int .u32 g] w fun e w' => e = .returned (.tuple #[.pointer none, .int .i64 2]) ∧ w = w' := by
  obtain ⟨n0, n1⟩ := hn
  obtain ⟨r0, r1⟩ := hr
  obtain ⟨g0, g1⟩ := hg
  by_cases c : 64 < n
  · go_enter Tryz.func52, Tryz.ntmps52
    go_wp2
    go_ret2
    exact ⟨rfl, rfl⟩
  · by_cases c2 : r < 1
    · go_enter Tryz.func52, Tryz.ntmps52
      go_wp2
      go_ret2
      exact ⟨rfl, rfl⟩
    · by_cases c3 : 16777216 < r
      · go_enter Tryz.func52, Tryz.ntmps52
        go_wp2
        go_ret2
        exact ⟨rfl, rfl⟩
      · have NW : Hid (Calls Tryz.prog 104 #[.int .i64 n, .int .u32 g] w fun e w' => e = .returned (.tuple #[.pointer none, .int .i64 2]) ∧ w = w') := by
          by_cases c1 : n < 1
          · exact new_arg1 n g w (.inl c1)
          · obtain rfl : g = 0 := by unfold PBad at h; omega
            exact new_arg2 n w (by omega) (by omega)
        go_enter Tryz.func52, Tryz.ntmps52
        go_wp2_with (go_at_call 104; refine NW.out.mono ?_; rintro e w1 ⟨rfl, rfl⟩)
        go_ret2
        exact ⟨rfl, rfl⟩

/-! ### Bytes -/
def BytesV (x E : Int) (w : World) (e : Ending) (w' : World) : Prop := e = .returned (.tuple #[.int .i64 x, .int .i64 E]) ∧ Below w.heap.size w w'

/-! ### Unpin -/
def UnV (b s k : Nat) (P : Po) (E : Int) (w : World) (e : Ending) (w' : World) : Prop := e = .returned (.int .i64 E) ∧ PW w' b s k P ∧ Kept (· = k) w w'
set_option maxRecDepth 100000 in
theorem punpin_core (v : Value) (x y z E : Int) (w : World) (hE : (E != 0) = true) (hh : ∀ W : World, Below w.heap.size w W → Calls Tryz.prog 207 #[v, .agg #[.int .i64 x, .int .i64 y, .int .u32 z]] W (HeldV 0 0 E W)) :
    Calls Tryz.prog 204 #[v, .agg #[.int .i64 x, .int .i64 y, .int .u32 z]] w fun e w' => e = .returned (.int .i64 E) ∧ Below w.heap.size w w' := by
  have HH := Lib.hid hh
  clear hh
  go_enter Tryz.func204, Tryz.ntmps204
  go_wp2_with fail
  refine (HH.out _ ((Below.refl _ w).alloc (Nat.le_refl _) _)).mono ?_
  rintro e w1 ⟨rfl, hb⟩
  have HB := Lib.hid hb
  clear hb
  go_wp2
  go_ret
  exact ⟨rfl, bel_alloc (bel2 ((Below.refl _ w).alloc (Nat.le_refl _) _) HB.out) _⟩
theorem punpin_inv (p : Option Addr) (x y z : Int) (w : World) (h : PInv w p) : Calls Tryz.prog 204 #[.pointer p, .agg #[.int .i64 x, .int .i64 y, .int .u32 z]] w fun e w' => e = .returned (.int .i64 1) ∧ Below w.heap.size w w' :=
  punpin_core _ x y z 1 w (by decide) fun W hW => pheld_inv p x y z W (h.below hW)
set_option maxHeartbeats 2000000 in
set_option maxRecDepth 100000 in
theorem punpin_yes (b s k : Nat) (P : Po) (x y z : Int) (w : World) (h : PW w b s k P) (hc : P.chk x y z = 0) : Calls Tryz.prog 204 #[.pointer (some ⟨b, 0, none⟩), .agg #[.int .i64 x, .int .i64 y, .int .u32 z]] w (UnV b s k (P.unpin x y z) 0 w) := by
  have HH : Hid (∀ W : World, Below w.heap.size w W → Calls Tryz.prog 207 #[.pointer (some ⟨b, 0, none⟩), .agg #[.int .i64 x, .int .i64 y, .int .u32 z]] W (HeldV y z 0 W)) := fun W hW => pheld_yes b s k P x y z W (h.below hW) hc
  have HS : Hid (∀ W : World, Below w.heap.size w W → W.cell? ⟨b, 0, none⟩ = some (.pointer (some ⟨s, 0, none⟩)) ∧ W.cell? ⟨s, 0, none⟩ = some (.pointer (some ⟨k, 0, none⟩))) := fun W hW => ⟨(h.below hW).c0, (h.below hW).s0⟩
  have GV : Hid (∀ W, Below w.heap.size w W → Calls Tryz.prog 191 #[.pointer (some ⟨k, 0, none⟩), .agg #[.int .i64 y, .int .u32 z]] W fun e w' => e = .returned (.int .i64 0) ∧ PW w' b s k (P.unpin x y z) ∧ Kept (· = k) w w' ∧ Kept (· = k) W w') := fun W hW => by
    obtain ⟨rfl, i, rfl, h1, h2, h3⟩ := Po.chk_pinned hc
    refine (give_ok k P.t i z W (h.below hW).tab h1 h2 h3).mono ?_
    rintro e w' ⟨rfl, hT, hk⟩
    have e1 : P.unpin 2 i z = P.gave i := by unfold Po.unpin; rw [if_pos hc, Int.toNat_natCast]
    rw [e1]
    exact ⟨rfl, ⟨h.ok.gave i, (h.below hW).hb.kept hk h.bk, (h.below hW).hs.kept hk h.sk, hT⟩, (Kept.of_below hW).trans hk, hk⟩
  have KT : Hid (k < w.heap.size ∧ b ≠ k ∧ s ≠ k) := ⟨h.tab.bt, h.bk, h.sk⟩
  clear h hc
  go_enter Tryz.func204, Tryz.ntmps204
  go_wp2_with fail
  refine (HH.out _ ((Below.refl _ w).alloc (Nat.le_refl _) _)).mono ?_
  rintro e w1 ⟨rfl, hb⟩
  obtain ⟨w4, hw4⟩ : ∃ w4, w1.alloc (.cells #[.int .i64 y, .int .u32 z] 193) = w4 := ⟨_, rfl⟩
  have B1 := bel2 ((Below.refl _ w).alloc (Nat.le_refl _) _) hb
  have HB4 : Hid (Below w.heap.size w w4) := by rw [← hw4]; exact bel_alloc B1 _
  have n4 : Bk w4 w1.heap.size 193 #[.int .i64 y, .int .u32 z] := by rw [← hw4]; exact Bk.new w1 _ _
  have s3 := n4.cell 0
  have s4 := n4.cell 1
  have HN := Lib.hid (And.intro B1.size n4)
  simp only [List.getElem?_toArray, List.getElem?_cons_zero, List.getElem?_cons_succ] at s3 s4
  have HW4 := Lib.hid hw4
  obtain ⟨s1, s2⟩ := HS.out w4 HB4.out
  clear hb B1 n4 hw4
  go_wp2
  rw [HW4.out]
  go_region_held3 (fun W => W.cell? ⟨b, 0, none⟩ = some (.pointer (some ⟨s, 0, none⟩)) ∧ W.cell? ⟨s, 0, none⟩ = some (.pointer (some ⟨k, 0, none⟩)) ∧ W.cell? ⟨w1.heap.size, 0, none⟩ = some (.int .i64 y) ∧ W.cell? ⟨w1.heap.size, 1, none⟩ = some (.int .u32 z)) (first | (exact ⟨s1, s2, s3, s4⟩) | (with_reducible exact hz1)) (first
    | (go_at_call 191; (with_reducible refine (GV.out _ (bel_drew HB4.out)).mono ?_); rintro e w5 ⟨rfl, hp5, hk5, hk6⟩; have hz1 := And.intro hp5.c0 (And.intro hp5.s0 (And.intro (kept_cell hk6 s3 (by have := HN.out.1; have := KT.out.1; omega)) (kept_cell hk6 s4 (by have := HN.out.1; have := KT.out.1; omega)))); have H5 := Lib.hid (And.intro hp5 hk5); clear hp5 hk5 hk6))
  all_goals
    go_wp2
    go_ret
    exact ⟨rfl, H5.out.1, H5.out.2⟩
theorem punpin_any (b s k : Nat) (P : Po) (x y z : Int) (w : World) (h : PW w b s k P) : Calls Tryz.prog 204 #[.pointer (some ⟨b, 0, none⟩), .agg #[.int .i64 x, .int .i64 y, .int .u32 z]] w (UnV b s k (P.unpin x y z) (P.chk x y z) w) := by
  by_cases hc : P.chk x y z = 0
  · rw [hc]; exact punpin_yes b s k P x y z w h hc
  · have e : P.unpin x y z = P := if_neg hc
    rw [e]
    refine (punpin_core _ x y z _ w (by simpa using hc) fun W hW => pheld_no b s k P x y z W (h.below hW) hc).mono ?_
    rintro e w' ⟨rfl, hb⟩
    exact ⟨rfl, h.below hb, Kept.of_below hb⟩

/-! ### Len -/

/-! ### Copy -/
set_option maxRecDepth 100000 in
theorem pcopy_no (p : Option Addr) (w : World) (h : PInv w p) : Calls Tryz.prog 205 #[.pointer p] w fun e w' => e = .returned (.pointer none) ∧ w = w' := by
  have H := Lib.hid h
  clear h
  go_enter Tryz.func205, Tryz.ntmps205
  go_wp2_with (go_at_call 177; refine (pvalid_no _ _ H.out).mono ?_; rintro e w' ⟨rfl, rfl⟩)
  go_ret
  exact ⟨rfl, rfl⟩
theorem pcopy_fin {w w2 : World} {P : Po} {k k' : Nat} (hP : P.Ok) (hB : Below (w.alloc (.cells (scells (.pointer (some ⟨k, 0, none⟩)) P.room P.m) 157)).heap.size (w.alloc (.cells (scells (.pointer (some ⟨k, 0, none⟩)) P.room P.m) 157)) w2)
    (hk : w.heap.size < k') (hT : TabW w2 k' P.t) : PNew P w w2.heap.size ((w2.setCell ⟨w.heap.size, 0, none⟩ (.pointer (some ⟨k', 0, none⟩))).alloc (.cells #[.pointer (some ⟨w.heap.size, 0, none⟩)] 159)) := by
  have b1 := ((box_of hB).put 0 (.pointer (some ⟨k', 0, none⟩)))
  rw [scells_put_0] at b1
  have hs := hB.size
  rw [World.size_alloc] at hs
  have t1 : TabW (w2.setCell ⟨w.heap.size, 0, none⟩ (.pointer (some ⟨k', 0, none⟩))) k' P.t := hT.same (Below.heap_setCell _ _ _ _ (by show k' ≠ w.heap.size; omega))
  have b2 := Bk.new (w2.setCell ⟨w.heap.size, 0, none⟩ (.pointer (some ⟨k', 0, none⟩))) 159 #[.pointer (some ⟨w.heap.size, 0, none⟩)]
  have e1 : (w2.setCell ⟨w.heap.size, 0, none⟩ (.pointer (some ⟨k', 0, none⟩))).heap.size = w2.heap.size := by simp
  rw [e1] at b2
  have B0 : Below w.heap.size w w2 := bel2 ((Below.refl _ w).alloc (Nat.le_refl _) _) hB
  refine ⟨w.heap.size, k', ⟨hP, b2, b1.up _, t1.same (Below.heap_alloc _ _ _ t1.bt)⟩, ?_, (B0.setCell (p := ⟨_, 0, none⟩) (Nat.le_refl _) _).alloc (by simp; omega) _⟩
  rintro g (rfl | rfl | rfl)
  · omega
  · omega
  · omega
set_option maxRecDepth 100000 in
set_option maxHeartbeats 1000000 in
theorem pcopy_ok (b s k : Nat) (P : Po) (w : World) (h : PW w b s k P) : Calls Tryz.prog 205 #[.pointer (some ⟨b, 0, none⟩)] w fun e w' => ∃ b', e = .returned (.pointer (some ⟨b', 0, none⟩)) ∧ PNew P w b' w' := by
  have hz := zero_space
  obtain ⟨zs, hzs⟩ : ∃ zs, scells (.pointer none) 0 (fun _ => 0) = zs := ⟨_, rfl⟩
  have hsz : zs.size = 66 := by rw [← hzs]; exact scells_size _ _ _
  have hne : ¬ zs = #[] := by rw [← hzs]; exact scells_ne _ _ _
  simp only [hzs] at hz
  obtain ⟨cs, hcs⟩ : ∃ cs, scells (.pointer (some ⟨k, 0, none⟩)) P.room P.m = cs := ⟨_, rfl⟩
  have hcz : cs.size = 66 := by rw [← hcs]; exact scells_size _ _ _
  have hc1 : ∀ v ∈ cs.toList, v.oneCell' = true := by
    rw [← hcs]
    intro v hv
    obtain ⟨j, _, rfl⟩ := List.mem_map.1 (show v ∈ (List.range 66).map (scell (.pointer (some ⟨k, 0, none⟩)) P.room P.m) by simpa [scells] using hv)
    unfold scell
    split
    · rfl
    · split <;> rfl
  have hc2 : cs.all (·.oneCell') = true := by rw [Array.all_eq_true_iff_forall_mem]; intro v hv; exact hc1 v (by simpa using hv)
  have hst := run_storeCells_new (P := Tryz.prog) w 157 zs cs (by rw [hcz]; kernel_rfl) (by rw [hcz, hsz]) hc2
  have HB : Hid (Bk w s 157 cs) := by rw [← hcs]; exact h.hs
  have hb := h.c0
  have CP : Hid (∀ W n, Below w.heap.size w W → W.heap.size = n → Calls Tryz.prog 192 #[.pointer (some ⟨k, 0, none⟩)] W fun e w' => e = .returned (.pointer (some ⟨n, 0, none⟩)) ∧ TabW w' n P.t ∧ Below W.heap.size W w') := fun W n hW hn => by rw [← hn]; exact copy_ok k P.t W (h.below hW).tab
  have FIN : Hid (∀ w2, Below (w.alloc (.cells cs 157)).heap.size (w.alloc (.cells cs 157)) w2 → TabW w2 (w.heap.size + 1) P.t → PNew P w w2.heap.size ((w2.setCell ⟨w.heap.size, 0, none⟩ (.pointer (some ⟨w.heap.size + 1, 0, none⟩))).alloc (.cells #[.pointer (some ⟨w.heap.size, 0, none⟩)] 159))) := fun w2 h1 h2 => by
    rw [← hcs] at h1
    exact pcopy_fin h.ok h1 (Nat.lt_succ_self _) h2
  have hq : cs[0]? = some (.pointer (some ⟨k, 0, none⟩)) := by rw [← hcs, scells_at _ _ _ (by omega)]; rfl
  have hq2 : cs[0]'(by omega) = .pointer (some ⟨k, 0, none⟩) := by rw [Array.getElem?_eq_getElem (by omega)] at hq; exact Option.some.inj hq
  clear hzs h hcs hc1 hc2
  have KF : Hid (∀ w2, Below (w.alloc (.cells cs 157)).heap.size (w.alloc (.cells cs 157)) w2 → w2.cell? ⟨w.heap.size, 0, none⟩ = some (.pointer (some ⟨k, 0, none⟩)) ∧ w2.frozen? ⟨w.heap.size, 0, none⟩ = false ∧ w.heap.size < w2.heap.size) := fun w2 h2 => ⟨by rw [(box_of h2).cell]; exact hq, (box_of h2).frozen 0, (box_of h2).lt⟩
  clear hq
  go_enter Tryz.func205, Tryz.ntmps205
  go_wp2_with (first
    | (go_at_call 177; refine (pvalid_yes _ s _ hb).mono ?_; rintro e w' ⟨rfl, rfl⟩)
    | (refine wpList_load_row rfl 157 _ rfl s rfl _ cs _ _ HB.out Tryz.underlying157 rfl (by rw [hcz]; kernel_rfl) ?_)
    | (go_at_call 192; refine (CP.out _ (w.heap.size + 1) ((Below.refl _ w).alloc (Nat.le_refl _) _) (by rw [World.size_alloc])).mono ?_; rintro e w2 ⟨rfl, hT, hB⟩; obtain ⟨c0, f0, l0⟩ := KF.out w2 hB; have HF := Lib.hid (FIN.out w2 hB hT); clear hT hB))
  go_ret
  exact ⟨_, rfl, HF.out⟩
end Go.Proofs.YtpinmiplefidpaaGreatDoor.BF

namespace Go.Proofs.YtpinmiplefidpaaGreatDoor.BF
open Go.RowKit

theorem wpOpIn_of {F : Fence} {n : Nat} {P : Program} {ops : Array Oper} {Q : Exit → Act → World → Prop} {i : Nat} {o : Oper} {K : Act → World → Prop} {a : Act} {w : World} (ho : ops[i]? = some o) (hg : o.guard = none) (h : o.wpIn F n P a w K Q) : wpOpIn F n P ops Q i K a w := by
  unfold wpOpIn
  rw [ho]
  have hw : Region.wanted o (yielded ops a.tmps) = true := by simp [Region.wanted, hg]
  simp only [hw, if_true]
  exact h

/-- J f a w: the operations that f names have come up, and no others. -/
theorem regionIn_by {F : Fence} {n : Nat} {P : Program} {ops : Array Oper} {Q : Exit → Act → World → Prop} {id : Nat} {a : Act} {w : World}
    (J : (Nat → Bool) → Act → World → Prop) (hm : P.follows .mixedOrders = true)
    (hord : ∀ i o, ops[i]? = some o → ∀ e ∈ o.after, Region.binds .any e = true → e.on < i)
    (h0 : J (fun _ => false) a w.drew)
    (hs : ∀ (f : Nat → Bool) (a : Act) (w : World), J f a w → ∀ i o, ops[i]? = some o → f i = false → (∀ e ∈ o.after, Region.binds .any e = true → f e.on = true) → wpOpIn F n P ops Q i (J (fun j => if j = i then true else f j)) a w)
    (he : ∀ f a w, J f a w → (∀ i, i < ops.size → f i = true) → Q .normal a w) : (Code.region id ops true).wpIn F n P Q a w := by
  have all : ∀ (listed : Array Bool), listed.size = ops.size → Region.ready .any ops listed = [] → ∀ i, i < ops.size → listed.getD i false = true := by
    intro listed hsz hr i
    induction i using Nat.strongRecOn with
    | ind i ih =>
      intro hi
      cases hc : listed.getD i false with
      | true => rfl
      | false =>
        exfalso
        have : i ∈ Region.ready .any ops listed := by
          refine mem_ready.2 ⟨?_, ops[i], Array.getElem?_eq_getElem hi, fun e hee hb => ?_⟩
          · simp only [Array.getD_eq_getD_getElem?] at hc ⊢
            rw [Array.getElem?_eq_getElem (by omega)] at hc ⊢
            exact hc
          · have hlt := hord i ops[i] (Array.getElem?_eq_getElem hi) e hee hb
            exact ih e.on hlt (by omega)
        rw [hr] at this
        cases this
  have key : ∀ (fuel : Nat) (listed : Array Bool) (f : Nat → Bool) (a : Act) (w : World), listed.size = ops.size → (∀ j, listed.getD j false = f j) → listed.toList.countP (fun b => !b) ≤ fuel → J f a w → wpAnyIn F n P .any ops Q fuel listed a w := by
    intro fuel
    induction fuel with
    | zero =>
      intro listed f a w hsz hf hc hJ
      have h1 : ∀ i, i < ops.size → f i = true := fun i hi => by
        have h2 := List.countP_eq_zero.1 (Nat.le_zero.1 hc) (listed[i]'(by omega)) (by simp)
        rw [← hf, Array.getD_eq_getD_getElem?, Array.getElem?_eq_getElem (by omega)]
        simpa using h2
      refine ⟨?_, he f a w hJ h1⟩
      apply List.eq_nil_iff_forall_not_mem.2
      intro j hj
      obtain ⟨g1, o, ho, _⟩ := mem_ready.1 hj
      have hjlt : j < ops.size := (Array.getElem?_eq_some_iff.1 ho).1
      have := h1 j hjlt
      rw [← hf] at this
      rw [Array.getD_eq_getD_getElem?, Array.getElem?_eq_getElem (by omega)] at g1 this
      simp at g1 this
      rw [g1] at this; cases this
    | succ fuel ih =>
      intro listed f a w hsz hf hc hJ
      refine ⟨fun hr => he f a w hJ fun i hi => by rw [← hf]; exact all listed hsz hr i hi, fun i hi => ?_⟩
      obtain ⟨g1, o, ho, g2⟩ := mem_ready.1 hi
      have hilt : i < ops.size := (Array.getElem?_eq_some_iff.1 ho).1
      have g3 : f i = false := by
        rw [← hf]
        rw [Array.getD_eq_getD_getElem?, Array.getElem?_eq_getElem (by omega)] at g1 ⊢
        exact g1
      refine wpOpIn_mono (fun a' w' h => ?_) (hs f a w hJ i o ho g3 fun e hee hb => by rw [← hf]; exact g2 e hee hb)
      refine ih _ _ a' w' (by simp [hsz]) (fun j => ?_) ?_ h
      · simp only [Array.getD_eq_getD_getElem?, Array.getElem?_setIfInBounds]
        by_cases hj : j = i
        · subst hj; simp [hsz, hilt]
        · rw [if_neg (fun e => hj e.symm), if_neg hj, ← hf, Array.getD_eq_getD_getElem?]
      · have hb : listed.toList[i]'(by simp [hsz, hilt]) = false := by
          rw [Array.getD_eq_getD_getElem?, Array.getElem?_eq_getElem (by omega)] at g1
          simpa using g1
        rw [Array.toList_setIfInBounds, List.countP_set (h := by simp [hsz, hilt]), hb]
        simp only [Bool.not_false, Bool.not_true, if_true, Bool.false_eq_true, if_false]
        omega
  refine wpIn_region_any hm ?_
  refine key ops.size (Array.replicate ops.size false) (fun _ => false) a w.drew (by simp) (fun j => ?_) ?_ h0
  · rw [Array.getD_eq_getD_getElem?, Array.getElem?_replicate]
    split <;> rfl
  · refine Nat.le_trans List.countP_le_length ?_
    simp

/-- What has come up has come up behind all that must come before it. -/
def Closed (ops : Array Oper) (f : Nat → Bool) : Prop := ∀ i o, ops[i]? = some o → f i = true → ∀ e ∈ o.after, Region.binds .any e = true → f e.on = true
/-- One more. -/
def more (f : Nat → Bool) (i : Nat) : Nat → Bool := fun j => if j = i then true else f j
/-- A region whose last operation comes behind all others: J holds up to it. -/
theorem regionIn_last {F : Fence} {n : Nat} {P : Program} {ops : Array Oper} {Q : Exit → Act → World → Prop} {id : Nat} {a : Act} {w : World} (m : Nat)
    (J : (Nat → Bool) → Act → World → Prop) (hm : P.follows .mixedOrders = true) (hsz : ops.size = m + 1)
    (hord : ∀ i o, ops[i]? = some o → ∀ e ∈ o.after, Region.binds .any e = true → e.on < i)
    (hall : ∀ f, Closed ops f → (∀ o, ops[m]? = some o → ∀ e ∈ o.after, Region.binds .any e = true → f e.on = true) → ∀ i, i < m → f i = true)
    (h0 : J (fun _ => false) a w.drew)
    (hs : ∀ (f : Nat → Bool) (a : Act) (w : World), J f a w → Closed ops f → ∀ i o, ops[i]? = some o → i < m → f i = false → (∀ e ∈ o.after, Region.binds .any e = true → f e.on = true) → wpOpIn F n P ops Q i (J (more f i)) a w)
    (hl : ∀ (f : Nat → Bool) (a : Act) (w : World), J f a w → (∀ i, i < m → f i = true) → wpOpIn F n P ops Q m (Q .normal) a w) : (Code.region id ops true).wpIn F n P Q a w := by
  refine regionIn_by (fun f a w => Closed ops f ∧ ((f m = false ∧ J f a w) ∨ (f m = true ∧ (∀ i, i < m → f i = true) ∧ Q .normal a w))) hm hord ⟨(fun i o _ h => by cases h), .inl ⟨rfl, h0⟩⟩ ?_ ?_
  · rintro f a w ⟨hc, h⟩ i o ho hfi hpre
    have hc2 : Closed ops (more f i) := fun j o' ho' hj e hee hb => by
      unfold more at hj ⊢
      by_cases he : e.on = i
      · rw [if_pos he]
      · rw [if_neg he]
        by_cases hji : j = i
        · subst hji
          rw [ho] at ho'
          obtain rfl := Option.some.inj ho'
          exact hpre e hee hb
        · rw [if_neg hji] at hj
          exact hc j o' ho' hj e hee hb
    have hilt : i < m + 1 := by rw [← hsz]; exact (Array.getElem?_eq_some_iff.1 ho).1
    rcases h with ⟨hfm, hJ⟩ | ⟨hfm, hal, _⟩
    · by_cases him : i = m
      · subst him
        have hal := hall f hc fun o' ho' => by
          rw [ho] at ho'
          obtain rfl := Option.some.inj ho'
          exact hpre
        refine wpOpIn_mono (fun a' w' h => ⟨hc2, .inr ⟨if_pos rfl, fun j hj => ?_, h⟩⟩) (hl f a w hJ hal)
        show (if j = i then true else f j) = true
        rw [if_neg (by omega)]
        exact hal j hj
      · refine wpOpIn_mono (fun a' w' h => ⟨hc2, .inl ⟨?_, h⟩⟩) (hs f a w hJ hc i o ho (by omega) hfi hpre)
        show (if m = i then true else f m) = false
        rw [if_neg (fun e => him e.symm)]
        exact hfm
    · exfalso
      by_cases him : i = m
      · subst him; rw [hfm] at hfi; cases hfi
      · rw [hal i (by omega)] at hfi; cases hfi
  · rintro f a w ⟨_, ⟨hfm, _⟩ | ⟨_, _, h⟩⟩ hal
    · rw [hal m (by omega)] at hfm; cases hfm
    · exact h


/-- The value of a slot: v once its operation has come up. -/
def selv (b : Bool) (v : Value) : Value := if b then v else undef
theorem selv_true (v : Value) : selv true v = v := rfl
theorem selv_false (v : Value) : selv false v = undef := rfl
end Go.Proofs.YtpinmiplefidpaaGreatDoor.BF

namespace Go.Proofs.YtpinmiplefidpaaGreatDoor.BF
open Go.RowKit Go.Shelf
attribute [local go_sem] Oper.semAt_some

/-! ### slices of references -/
theorem pairs_at : ∀ (l : List (Nat × Nat)) (j : Nat) (r : Nat × Nat), l[j]? = some r → (pairs l)[j * 2]? = some (.int .i64 r.1) ∧ (pairs l)[j * 2 + 1]? = some (.int .u32 r.2)
  | [], j, r, h => by simp at h
  | a :: l, 0, r, h => by
    simp at h; subst h
    simp [pairs]
  | a :: l, j + 1, r, h => by
    simp at h
    have ih := pairs_at l j r h
    have e : pairs (a :: l) = .int .i64 a.1 :: .int .u32 a.2 :: pairs l := rfl
    have e1 : (j + 1) * 2 = j * 2 + 1 + 1 := by omega
    rw [e, e1, List.getElem?_cons_succ, List.getElem?_cons_succ, List.getElem?_cons_succ, List.getElem?_cons_succ]
    exact ih
/-- The slice value v reads as the references l. -/
def Sr (w : World) (v : Value) (l : List (Nat × Nat)) : Prop :=
  ∃ a c, v = .slice a l.length c ∧ (0 < l.length → ∃ g cur, a = some ⟨g, 0, none⟩ ∧ Bk w g 193 cur ∧ ∀ j r, l[j]? = some r → cur[j * 2]? = some (.int .i64 r.1) ∧ cur[j * 2 + 1]? = some (.int .u32 r.2))
theorem Sr.of_own {w : World} {b : Nat} {v : Value} {l : List (Nat × Nat)} (h : w.ownsRow b 193 2 v l.length (pairs l)) : Sr w v l := by
  rcases h.2 with ⟨rfl, h0⟩ | ⟨g, cap, cur, rfl, h1, h2, h3, h4, h5, h6⟩
  · have : l = [] := List.eq_nil_of_length_eq_zero h0
    subst this
    exact ⟨none, 0, rfl, fun h => by simp at h⟩
  · refine ⟨_, cap, rfl, fun _ => ⟨g, cur, rfl, h2, fun j r hj => ?_⟩⟩
    have hjl : j < l.length := (List.getElem?_eq_some_iff.1 hj).1
    have := pairs_at l j r hj
    rw [← h6, List.getElem?_take_of_lt (by omega), List.getElem?_take_of_lt (by omega), Array.getElem?_toList, Array.getElem?_toList] at this
    exact this
theorem Sr.at {w : World} {a : Option Addr} {n c : Nat} {l : List (Nat × Nat)} (h : Sr w (.slice a n c) l) {j : Nat} {r : Nat × Nat} (hj : l[j]? = some r) : ∃ g, a = some ⟨g, 0, none⟩ ∧ g < w.heap.size ∧ w.cell? ⟨g, j * 2, none⟩ = some (.int .i64 r.1) ∧ w.cell? ⟨g, j * 2 + 1, none⟩ = some (.int .u32 r.2) := by
  obtain ⟨a', c', e, h⟩ := h
  injection e with e1 e2 e3
  subst e1
  have hjl : j < l.length := (List.getElem?_eq_some_iff.1 hj).1
  obtain ⟨g, cur, e2, hg, hc⟩ := h (by omega)
  exact ⟨g, e2, hg.lt, by rw [hg.cell]; exact (hc j r hj).1, by rw [hg.cell]; exact (hc j r hj).2⟩
theorem Sr.len {w : World} {v : Value} {l : List (Nat × Nat)} (h : Sr w v l) : ∃ a c, v = .slice a l.length c := by
  obtain ⟨a, c, e, _⟩ := h
  exact ⟨a, c, e⟩
/-- Taken, told by what its slice reads as. -/
def TkS (l : List (Nat × Nat)) (w : World) (e : Ending) (w' : World) : Prop := ∃ a c, e = .returned (.slice a l.length c) ∧ Sr w' (.slice a l.length c) l ∧ Below w.heap.size w w'
theorem taken_s (b : Nat) (T : Tb) (w : World) (h : TabW w b T) : Calls Tryz.prog 169 #[.pointer (some ⟨b, 0, none⟩)] w (TkS T.now w) := by
  refine (taken_ok b T w h).mono ?_
  rintro e w' ⟨v, rfl, h1, _, h3⟩
  have hs := Sr.of_own h1
  obtain ⟨a, c, rfl⟩ := hs.len
  exact ⟨a, c, rfl, hs, h3⟩

/-! ### pinned -/
set_option maxRecDepth 100000 in
theorem pinned_ok (v : Option Addr) (w : World) : Calls Tryz.prog 175 #[.pointer v] w fun e w' => e = .returned (.func (.func 176) #[] #[.pointer (some ⟨w.heap.size, 0, none⟩)]) ∧ w.alloc (.cells #[.pointer v] 87) = w' := by
  go_enter Tryz.func175, Tryz.ntmps175
  go_wp2
  go_ret
  exact ⟨rfl, rfl⟩

/-- What a round that goes on keeps: the blocks below n₀ that X does not name, and all references. -/
def KpR (X : Nat → Prop) (n₀ : Nat) (A B : World) : Prop := A.heap.size ≤ B.heap.size ∧ (∀ k, k < n₀ → ¬ X k → B.heap[k]? = A.heap[k]?) ∧ ∀ k cs, Bk A k 193 cs → B.heap[k]? = A.heap[k]?
theorem KpR.refl (X : Nat → Prop) (n₀ : Nat) (A : World) : KpR X n₀ A A := ⟨Nat.le_refl _, fun _ _ _ => rfl, fun _ _ _ => rfl⟩
theorem KpR.trans {X : Nat → Prop} {n₀ : Nat} {A B C : World} (h : KpR X n₀ A B) (k : KpR X n₀ B C) : KpR X n₀ A C :=
  ⟨Nat.le_trans h.1 k.1, fun i hi hx => (k.2.1 i hi hx).trans (h.2.1 i hi hx), fun i cs hb => (k.2.2 i cs (hb.same (h.2.2 i cs hb))).trans (h.2.2 i cs hb)⟩
theorem KpR.of_below {X : Nat → Prop} {n₀ : Nat} {A B : World} (h : Below A.heap.size A B) (hn : n₀ ≤ A.heap.size) : KpR X n₀ A B := ⟨h.size, fun k hk _ => h.block k (by omega), fun k _ hb => h.block k hb.lt⟩
theorem kpR_b {X : Nat → Prop} {n₀ : Nat} {w : World} (hn : n₀ ≤ w.heap.size) (W : World) (l : Nat) (o o' : Obj) (hl : w.heap.size ≤ l) (h : W.heap[l]? = some o) (h1 : o.isCells = false) (h2 : o.isWalk = false) : KpR X n₀ W (W.putObj l o') :=
  ⟨(belowK_b hn W l o o' hl h h1 h2).size, fun k hk _ => (belowK_b hn W l o o' hl h h1 h2).block k hk, fun k cs hb => by
    have hne : k ≠ l := by rintro rfl; rw [show W.heap[k]? = _ from hb] at h; cases h; cases h1
    exact (grownBy_putObj' W l o').block k hb.lt (fun e => hne (Option.some.inj e))⟩
theorem Sr.kp {X : Nat → Prop} {n₀ : Nat} {w w' : World} {v : Value} {l : List (Nat × Nat)} (h : Sr w v l) (k : KpR X n₀ w w') : Sr w' v l := by
  obtain ⟨a, c, e, h⟩ := h
  refine ⟨a, c, e, fun h0 => ?_⟩
  obtain ⟨g, cur, e2, hg, hc⟩ := h h0
  exact ⟨g, cur, e2, hg.same (k.2.2 g cur hg), hc⟩

structure PinAt (W : World) (X : Nat → Prop) (n₀ Bs b s k : Nat) (P : Po) : Prop where
  q : PW W b s k P
  bs : W.cell? ⟨Bs, 0, none⟩ = some (.pointer (some ⟨b, 0, none⟩))
  ft : ∀ g, PFoot b s k g → g < n₀ ∧ ¬ X g
  ls : Bs < n₀
  xs : ¬ X Bs
  sz : n₀ ≤ W.heap.size
theorem PinAt.kp {W W' : World} {X : Nat → Prop} {n₀ Bs b s k : Nat} {P : Po} (h : PinAt W X n₀ Bs b s k P) (q : KpR X n₀ W W') : PinAt W' X n₀ Bs b s k P :=
  ⟨h.q.same fun g hg => q.2.1 g (h.ft g hg).1 (h.ft g hg).2, (World.cell?_of_block (a := ⟨Bs, 0, none⟩) (q.2.1 Bs h.ls h.xs)).trans h.bs, h.ft, h.ls, h.xs, Nat.le_trans h.sz q.1⟩
/-- What is yielded. -/
def encP (P : Po) (x : Nat × Nat) : Array Value := #[.agg #[.int .i64 2, .int .i64 x.1, .int .u32 x.2], .int .i64 (P.m x.1)]

/-- v once its operation has come up, u before. -/
def selo (b : Bool) (u v : Value) : Value := if b then v else u
theorem selo_true (u v : Value) : selo true u v = v := rfl
/-- While the region runs that yields. -/
def JPin (W0 : World) (l Bs b s k g N c j i y m : Nat) (Good Bad : World → Prop) (v36 : Value) (u : Nat → Value) (f : Nat → Bool) (a : Act) (W : World) : Prop :=
  ∃ v34, a = ⟨#[.func (.yield l) #[] #[], .pointer (some ⟨Bs, 0, none⟩), undef, undef, .pointer (some ⟨W0.heap.size - 1, 0, none⟩), .pointer (some ⟨b, 0, none⟩), .bool true, .bool false, .pointer (some ⟨b, 0, none⟩), .pointer (some ⟨b, 0, none⟩), .pointer (some ⟨b, 0, none⟩), .pointer (some ⟨s, 0, none⟩), .pointer (some ⟨s, 0, none⟩), .pointer (some ⟨s, 0, none⟩), .pointer (some ⟨k, 0, none⟩), .slice (some ⟨g, 0, none⟩) N c, .int .i64 N, .int .i64 j, .bool true, .pointer (some ⟨g, j * 2, none⟩), .agg #[.int .i64 i, .int .u32 y],
      selo (f 0) (u 21) (.func (.yield l) #[] #[]), selo (f 1) (u 22) (.agg #[.int .i64 i, .int .u32 y]), selo (f 2) (u 23) (.agg #[.int .i64 2, .int .i64 i, .int .u32 y]), selo (f 3) (u 24) (.pointer (some ⟨b, 0, none⟩)), selo (f 4) (u 25) (.pointer (some ⟨b, 0, none⟩)), selo (f 5) (u 26) (.pointer (some ⟨b, 0, none⟩)), selo (f 6) (u 27) (.pointer (some ⟨s, 0, none⟩)),
      selo (f 7) (u 28) (.pointer (some ⟨W0.heap.size - 1, 0, none⟩)), selo (f 8) (u 29) (.int .i64 i), selo (f 9) (u 30) (.pointer (some ⟨s, 0, none⟩)), selo (f 10) (u 31) (.pointer (some ⟨s, 2, none⟩)), selo (f 11) (u 32) (.pointer (some ⟨s, 2 + i, none⟩)), selo (f 12) (u 33) (.int .i64 m), selo (f 13) (u 34) v34, u 35, v36], []⟩ ∧
    (f 13 = false → Below W0.heap.size W0 W) ∧ (f 13 = true → (v34 = .bool true ∧ Good W) ∨ (v34 = .bool false ∧ Bad W))
/-- u from a list. -/
def slots_u (l : List Value) (q : Nat) : Value := (l[q - 21]?).getD undef

set_option maxRecDepth 100000 in
set_option maxHeartbeats 4000000 in
theorem pin1_in (n : Nat) (hn : 1 ≤ n) (l Bs n₀ b s k B0 : Nat) (P : Po) (X : Nat → Prop) (J Jx : List (Nat × Nat) → World → Prop) (hJ : AbidesFrom B0 J)
    (hY : ∀ pre x W, J pre W → pre.length < P.t.now.length → YieldAt Fence.wide (n - 1) Tryz.prog l (encP P x) W fun e W' =>
      (e = .returned (.bool true) ∧ J (pre ++ [x]) W' ∧ KpR X n₀ W W') ∨ (e = .returned (.bool false) ∧ Jx (pre ++ [x]) W'))
    (W : World) (hA : PinAt W X n₀ Bs b s k P) (h0 : J [] W) :
    CallsIn Fence.wide n Tryz.prog 176 #[.func (.yield l) #[] #[], .pointer (some ⟨Bs, 0, none⟩)] W fun e W' => (∃ v, e = .returned v) ∧
      ((∃ ys, ys = P.t.now ∧ J ys W') ∨ (∃ pre, pre <+: P.t.now ∧ Jx pre W')) := by
  have hbs := hA.bs
  have hb0 := hA.q.c0
  have hs0 := hA.q.s0
  have HA := Lib.hid hA
  have HY := Lib.hid hY
  have H0 := Lib.hid h0
  have HJB : Hid (∀ (pre : List (Nat × Nat)) (W W' : World), J pre W → Below W.heap.size W W' → J pre W') := fun pre W W' h hB => hJ _ _ _ none h ⟨hB.os, hB.tape, hB.output, hB.size, fun k hk _ => hB.block k hk⟩ (fun r e => by cases e)
  have HR : Hid (∀ x ∈ P.t.now, x.1 < 64 ∧ x.2 ≤ 4294967295) := fun x hx => by
    have h1 := Tb.mem_now.1 hx
    have h2 := hA.q.ok.hi
    have h3 := hA.q.ok.t.gm x.1
    omega
  have TK := Lib.hid (taken_s k P.t W hA.q.tab)
  have hN : P.t.now.length ≤ 64 := by rw [Tb.now_len]; exact hA.q.ok.held_len
  clear hA hY h0 hJ
  obtain ⟨L, hL⟩ : ∃ L, P.t.now = L := ⟨_, rfl⟩
  rw [hL] at HY HR TK hN ⊢
  clear hL
  obtain ⟨N, hNN⟩ : ∃ N, L.length = N := ⟨_, rfl⟩
  have HN := Lib.hid hNN
  rw [hNN] at hN HY
  refine callsIn_of_wp Tryz.func176 rfl trivial ?_ rfl
  simp only [Tryz.ntmps176, List.size_toArray, List.length_cons, List.length_nil, Nat.reduceAdd, Nat.reduceSub, Array.replicate_succ, Array.replicate_zero, List.push_toArray, List.append_toArray, List.nil_append, List.cons_append]
  gi_wp2_with (first
    | (refine ⟨trivial, ?_⟩; gi_at_call 177; refine (callsIn_wide.2 (pvalid_yes b s _ HA.out.q.c0)).mono ?_; rintro e w' ⟨rfl, rfl⟩)
    | (refine ⟨trivial, ?_⟩; gi_at_call 169; refine (callsIn_wide.2 TK.out).mono ?_; rintro e w1 ⟨a, c, rfl, hs, hb⟩; rw [hNN] at hs ⊢; have HS := Lib.hid hs; have HB := Lib.hid hb; clear hs hb))
  clear hbs hb0 hs0 TK hNN
  gi_loopw [17] (fun i wr => ∃ j : Nat, j ≤ N ∧ i = .int .i64 j ∧ Hid (J (L.take j) wr) ∧ Hid (KpR X n₀ W wr) ∧ Hid (Sr wr (.slice a N c) L)) (fun i _ => N - (intOf i).toNat)
  case atStart => exact ⟨0, Nat.zero_le _, rfl, HJB.out _ _ _ H0.out HB.out, KpR.of_below HB.out HA.out.sz, HS.out⟩
  case round =>
    obtain ⟨j, hj, rfl, HJ, HK, HS2⟩ := hrel
    clear HS
    have HA2 := Lib.hid (HA.out.kp HK.out)
    by_cases hlt : j < N
    · obtain ⟨x, hx⟩ : ∃ x, L[j]? = some x := ⟨_, List.getElem?_eq_getElem (by rw [HN.out]; exact hlt)⟩
      obtain ⟨g, rfl, hg, c0, c1⟩ := HS2.out.at hx
      have hxr := HR.out x (List.mem_of_getElem? hx)
      have hsn : L.take j ++ [x] = L.take (j + 1) := by rw [List.take_add_one, hx]; rfl
      have HSN := Lib.hid hsn
      obtain ⟨i, y⟩ := x
      simp only at hxr c0 c1
      obtain ⟨hi, hy⟩ := hxr
      clear hx hsn
      gi_wp2
      obtain ⟨w0, hw0⟩ : ∃ w0, wr.alloc (.cells #[.int .i64 i, .int .u32 y] 193) = w0 := ⟨_, rfl⟩
      have hsz0 : w0.heap.size = wr.heap.size + 1 := by rw [← hw0, World.size_alloc]
      have hB0 : Below wr.heap.size wr w0 := by rw [← hw0]; exact (Below.refl _ _).alloc (Nat.le_refl _) _
      have nb : Bk w0 wr.heap.size 193 #[.int .i64 i, .int .u32 y] := by rw [← hw0]; exact Bk.new wr _ _
      obtain ⟨m, hm⟩ : ∃ m, P.m i = m := ⟨_, rfl⟩
      have HC : Hid (∀ W', Below w0.heap.size w0 W' → W'.cell? ⟨Bs, 0, none⟩ = some (.pointer (some ⟨b, 0, none⟩)) ∧ W'.cell? ⟨b, 0, none⟩ = some (.pointer (some ⟨s, 0, none⟩)) ∧ W'.cell? ⟨s, 2 + i, none⟩ = some (.int .i64 m) ∧ W'.cell? ⟨wr.heap.size, 0, none⟩ = some (.int .i64 i) ∧ W'.cell? ⟨wr.heap.size, 1, none⟩ = some (.int .u32 y) ∧ b < W'.heap.size ∧ s < W'.heap.size ∧ wr.heap.size < W'.heap.size) := fun W' hW' => by
        have h1 := HA2.out.kp (KpR.of_below (bel2 hB0 hW') HA2.out.sz)
        have h2 := h1.q.sm hi
        rw [hm] at h2
        exact ⟨h1.bs, h1.q.c0, h2, (nb.below hW').cell 0, (nb.below hW').cell 1, h1.q.hb.lt, h1.q.hs.lt, (nb.below hW').lt⟩
      have HY2 : Hid (∀ W', Below w0.heap.size w0 W' → YieldAt Fence.wide (n - 1) Tryz.prog l #[.agg #[.int .i64 2, .int .i64 i, .int .u32 y], .int .i64 m] W' fun e W3 =>
          (e = .returned (.bool true) ∧ J (L.take (j + 1)) W3 ∧ KpR X n₀ wr W3) ∨ (e = .returned (.bool false) ∧ Jx (L.take (j + 1)) W3)) := fun W' hW' => by
        have h1 := HY.out (L.take j) (i, y) W' (HJB.out _ _ _ HJ.out (bel2 hB0 hW')) (by rw [List.length_take]; omega)
        unfold encP at h1
        rw [hm, HSN.out] at h1
        obtain ⟨fn, tmps, assign, body, hy, hR⟩ := h1
        refine ⟨fn, tmps, assign, body, hy, hR.mono ?_⟩
        rintro e W3 (⟨h1, h2, h3⟩ | h)
        · exact .inl ⟨h1, h2, (KpR.of_below (bel2 hB0 hW') HA2.out.sz).trans h3⟩
        · exact .inr h
      rw [hw0]
      clear hw0 hm nb c0 c1
      have hsz1 : wr.heap.size = w0.heap.size - 1 := by omega
      rw [hsz1] at HC ⊢
      have HSZ := Lib.hid (And.intro hsz0 hB0)
      clear hsz0 hsz1 hB0
      refine regionIn_last 14 (JPin w0 l Bs b s k g N c j i y m (fun W3 => J (L.take (j + 1)) W3 ∧ KpR X n₀ wr W3) (fun W3 => Jx (L.take (j + 1)) W3) u36 (slots_u [u21, u22, u23, u24, u25, u26, u27, u28, u29, u30, u31, u32, u33, u34, u35])) (by kernel_rfl) rfl ?_ ?_ ?_ ?_ ?_
      · intro i o ho
        rcases i with _ | _ | _ | _ | _ | _ | _ | _ | _ | _ | _ | _ | _ | _ | _ | i
        all_goals simp at ho
        all_goals subst ho
        all_goals simp [Region.binds]
      · intro f hcl hp i hi
        have h1 := hp _ rfl
        have c2 := fun h => hcl 2 _ rfl h
        have c4 := fun h => hcl 4 _ rfl h
        have c5 := fun h => hcl 5 _ rfl h
        have c6 := fun h => hcl 6 _ rfl h
        have c8 := fun h => hcl 8 _ rfl h
        have c9 := fun h => hcl 9 _ rfl h
        have c10 := fun h => hcl 10 _ rfl h
        have c11 := fun h => hcl 11 _ rfl h
        have c12 := fun h => hcl 12 _ rfl h
        have c13 := fun h => hcl 13 _ rfl h
        simp [Region.binds] at h1 c2 c4 c5 c6 c8 c9 c10 c11 c12 c13
        obtain ⟨k0, k2, k12, _⟩ := c13 h1
        have k11 := c12 k12
        obtain ⟨k10, k8⟩ := c11 k11
        have k9 := c10 k10
        have k6 := c9 k9
        have k5 := c6 k6
        have k4 := c5 k5
        have k3 := c4 k4
        have k7 := c8 k8
        have k1 := c2 k2
        clear c2 c4 c5 c6 c8 c9 c10 c11 c12 c13 hp hcl
        rcases i with _ | _ | _ | _ | _ | _ | _ | _ | _ | _ | _ | _ | _ | _ | i
        all_goals try simp only [Nat.zero_add, Nat.reduceAdd] at hi ⊢
        all_goals first | assumption | omega
      · refine ⟨undef, rfl, fun _ => bel_drew (Below.refl _ _), fun h => by cases h⟩
      · rintro f a W' ⟨v34, rfl, hB, hG⟩ hcl i' o ho hi' hfi hpre
        have c2 := fun h => hcl 2 _ rfl h
        have c4 := fun h => hcl 4 _ rfl h
        have c5 := fun h => hcl 5 _ rfl h
        have c6 := fun h => hcl 6 _ rfl h
        have c8 := fun h => hcl 8 _ rfl h
        have c9 := fun h => hcl 9 _ rfl h
        have c10 := fun h => hcl 10 _ rfl h
        have c11 := fun h => hcl 11 _ rfl h
        have c12 := fun h => hcl 12 _ rfl h
        have c13 := fun h => hcl 13 _ rfl h
        simp [Region.binds] at c2 c4 c5 c6 c8 c9 c10 c11 c12 c13
        have h13 : f 13 = false := by
          cases h1 : f 13 with
          | false => rfl
          | true =>
            exfalso
            obtain ⟨k0, k2, k12, _⟩ := c13 h1
            have k11 := c12 k12
            obtain ⟨k10, k8⟩ := c11 k11
            have k9 := c10 k10
            have k6 := c9 k9
            have k5 := c6 k6
            have k4 := c5 k5
            have k3 := c4 k4
            have k7 := c8 k8
            have k1 := c2 k2
            rcases i' with _ | _ | _ | _ | _ | _ | _ | _ | _ | _ | _ | _ | _ | _ | i'
            all_goals try simp only [Nat.zero_add, Nat.reduceAdd] at hfi
            all_goals first | omega | simp_all
        clear hcl c2 c4 c5 c6 c8 c9 c10 c11 c12 c13 hG
        have B1 := hB h13
        obtain ⟨q1, q2, q3, q4, q5, q6, q7, q8⟩ := HC.out W' B1
        have hi2 : (i : Int) < 64 := by omega
        clear hB
        rcases i' with _ | _ | _ | _ | _ | _ | _ | _ | _ | _ | _ | _ | _ | _ | i'
        rotate_right
        · exfalso; omega
        all_goals try simp only [Nat.zero_add, Nat.reduceAdd] at hfi ho ⊢
        all_goals simp at ho
        all_goals subst ho
        all_goals simp [Region.binds] at hpre
        all_goals clear hi'
        all_goals try (refine wpOpIn_of rfl rfl ?_; (try simp only [hpre, selo_true]); go_simp; refine ⟨v34, ?_, fun _ => B1, fun h => absurd (show f 13 = true from h) (by rw [h13]; decide)⟩; simp [more, selo, hpre, h13]; done)
        · refine wpOpIn_of rfl rfl ?_
          simp only [hpre, selo_true]
          go_simp
          refine ⟨trivial, ?_⟩
          refine (callsIn_wide.2 (buffer_ok i y W' (by omega) (by omega) (by omega) (by omega))).mono ?_
          rintro e w5 ⟨rfl, hb5⟩
          refine ⟨v34, ?_, fun _ => bel2 B1 hb5, fun h => absurd (show f 13 = true from h) (by rw [h13]; decide)⟩
          simp [more, selo, hpre, h13]
        · obtain ⟨fn, tmps, assign, body, hy, hR⟩ := HY2.out W' B1
          refine wpOpIn_of rfl rfl ?_
          simp only [hpre, selo_true]
          go_simp
          refine hR.mono ?_
          rintro e W3 (⟨rfl, hJ3, hK3⟩ | ⟨rfl, hX⟩)
          · refine ⟨.bool true, ?_, fun h => by simp [more] at h, fun _ => .inl ⟨rfl, hJ3, hK3⟩⟩
            simp [more, selo, hpre]
          · refine ⟨.bool false, ?_, fun h => by simp [more] at h, fun _ => .inr ⟨rfl, hX⟩⟩
            simp [more, selo, hpre]
      · rintro f a W' ⟨v34, rfl, hB, hG⟩ hal
        obtain ⟨k0, k1, k2, k3, k4, k5, k6, k7, k8, k9⟩ : (f 0 = true ∧ f 1 = true ∧ f 2 = true ∧ f 3 = true ∧ f 4 = true ∧ f 5 = true ∧ f 6 = true ∧ f 7 = true ∧ f 8 = true ∧ f 9 = true) := ⟨hal _ (by decide), hal _ (by decide), hal _ (by decide), hal _ (by decide), hal _ (by decide), hal _ (by decide), hal _ (by decide), hal _ (by decide), hal _ (by decide), hal _ (by decide)⟩
        obtain ⟨k10, k11, k12, k13⟩ : (f 10 = true ∧ f 11 = true ∧ f 12 = true ∧ f 13 = true) := ⟨hal _ (by decide), hal _ (by decide), hal _ (by decide), hal _ (by decide)⟩
        have hg := hG k13
        clear hB hG hal
        simp only [k0, k1, k2, k3, k4, k5, k6, k7, k8, k9, k10, k11, k12, k13, selo_true]
        clear k0 k1 k2 k3 k4 k5 k6 k7 k8 k9 k10 k11 k12 k13
        generalize slots_u [u21, u22, u23, u24, u25, u26, u27, u28, u29, u30, u31, u32, u33, u34, u35] 35 = x35
        refine wpOpIn_of rfl rfl ?_
        rcases hg with ⟨rfl, hJ3, hK3⟩ | ⟨rfl, hX⟩
        · have HJ4 := Lib.hid hJ3
          have HK4 := Lib.hid (HK.out.trans hK3)
          have HS4 := Lib.hid (HS2.out.kp hK3)
          clear hJ3 hK3 HC HY2
          go_simp
          gi_wp2
          go_roundw
          case rel => exact ⟨j + 1, by omega, by go_num, HJ4.out, HK4.out, HS4.out⟩
          case measure => simp [intOf]; omega
        · have HJ4 := Lib.hid hX
          clear hX HC HY2
          go_simp
          gi_wp2
          refine bodyPost_ret (results_none rfl _ _ _) rfl ?_
          exact ⟨⟨_, rfl⟩, .inr ⟨L.take (j + 1), List.take_prefix _ _, HJ4.out⟩⟩
    · have hp2 := HJ.out
      rw [List.take_of_length_le (by rw [HN.out]; omega)] at hp2
      have HP2 := Lib.hid hp2
      clear hp2
      gi_wp2
      go_end0
      exact ⟨⟨_, rfl⟩, .inl ⟨_, rfl, HP2.out⟩⟩
theorem pin_stops (n : Nat) (hn : 1 ≤ n) (Bs n₀ b s k : Nat) (P : Po) (X : Nat → Prop) (w : World) (hA : PinAt w X n₀ Bs b s k P) :
    SeqStopsK Fence.wide n Tryz.prog 176 #[.pointer (some ⟨Bs, 0, none⟩)] (encP P) (KpR X n₀) (fun ys => ys = P.t.now) (fun pre => pre <+: P.t.now) P.t.now.length w := fun l J Jx W hW hJ _ hY h0 =>
  pin1_in n hn l Bs n₀ b s k W.heap.size P X J Jx hJ hY W (hA.kp (KpR.of_below hW hA.sz)) h0
theorem pin_none (n : Nat) (hn : 1 ≤ n) (Bs : Nat) (v : Option Addr) (P : Po) (Kp : World → World → Prop) (w : World) (hv : PInv w v) (hbs : w.cell? ⟨Bs, 0, none⟩ = some (.pointer v)) :
    SeqStopsK Fence.wide n Tryz.prog 176 #[.pointer (some ⟨Bs, 0, none⟩)] (encP P) Kp (fun ys => ys = []) (fun _ => False) 0 w := fun l J Jx W hW _ _ hY h0 => by
  have hbs2 := (hW.cell (p := ⟨Bs, 0, none⟩) (World.block_lt_of_cell? _ _ hbs)).trans hbs
  have HV := Lib.hid (hv.below hW)
  have H0 := Lib.hid h0
  clear hv hbs h0 hY hW
  refine callsIn_of_wp Tryz.func176 rfl trivial ?_ rfl
  simp only [Tryz.ntmps176, List.size_toArray, List.length_cons, List.length_nil, Nat.reduceAdd, Nat.reduceSub, Array.replicate_succ, Array.replicate_zero, List.push_toArray, List.append_toArray, List.nil_append, List.cons_append]
  gi_wp2_with (refine ⟨trivial, ?_⟩; gi_at_call 177; refine (callsIn_wide.2 (pvalid_no _ _ HV.out)).mono ?_; rintro e w' ⟨rfl, rfl⟩)
  refine bodyPost_ret (results_none rfl _ _ _) rfl ?_
  exact ⟨⟨_, rfl⟩, .inl ⟨_, rfl, H0.out⟩⟩
end Go.Proofs.YtpinmiplefidpaaGreatDoor.BF

namespace Go.Proofs.YtpinmiplefidpaaGreatDoor.BF
open Go.RowKit Go.Shelf
attribute [local go_sem] Oper.semAt_some

theorem _root_.Go.Proofs.YtpinmiplefidpaaGreatDoor.Bk.grown' {w w' : World} {g : Nat} {t : TypeId} {cs : Array Value} {row : Option Nat} (h : Bk w g t cs) (hg : w.grownBy w' row) (hr : ∀ r, row = some r → ∃ o, w.heap[r]? = some o ∧ o.isCells = false) : Bk w' g t cs := by
  refine (hg.block g h.lt fun e => ?_).trans h
  obtain ⟨o, ho, hc⟩ := hr g e.symm
  rw [show w.heap[g]? = _ from h] at ho
  cases ho
  cases hc
/-- What the first ones have together. -/
def sumP (P : Po) (l : List (Nat × Nat)) : Nat := (l.map fun r => P.m r.1).sum
theorem sumP_snoc (P : Po) (l : List (Nat × Nat)) (x : Nat × Nat) : sumP P (l ++ [x]) = sumP P l + P.m x.1 := by simp [sumP]
/-- While Used's loop runs. -/
def UsJ (w : World) (P : Po) (pre : List (Nat × Nat)) (W : World) : Prop := Bk W w.heap.size 3 #[.int .i64 (sumP P pre)] ∧ sumP P pre ≤ pre.length * 65536 ∧ w.heap.size + 2 ≤ W.heap.size ∧ Below w.heap.size w W
set_option maxRecDepth 100000 in
set_option maxHeartbeats 4000000 in
theorem used_of (a : Option Addr) (P : Po) (L : List (Nat × Nat)) (hm : ∀ i, P.m i ≤ 65536) (Sp : List (Nat × Nat) → Prop) (N : Nat) (hN : N ≤ 64) (w : World)
    (hseq : ∀ w2, w2.heap.size = w.heap.size + 2 → Below w.heap.size w w2 → w2.cell? ⟨w.heap.size + 1, 0, none⟩ = some (.pointer a) →
      SeqStopsK Fence.wide 2 Tryz.prog 176 #[.pointer (some ⟨w.heap.size + 1, 0, none⟩)] (encP P) (KpR (· = w.heap.size) (w.heap.size + 2)) (fun ys => ys = L) Sp N w2) :
    Calls Tryz.prog 206 #[.pointer a] w fun e w' => e = .returned (.int .i64 (sumP P L)) ∧ Below w.heap.size w w' := by
  have HSEQ := Lib.hid hseq
  clear hseq
  refine (callsIn_wide (n := 3)).1 ?_
  refine callsIn_of_wp_marks Tryz.func206 rfl trivial ?_ rfl
  simp only [Tryz.ntmps206, List.size_toArray, List.length_cons, List.length_nil, Nat.reduceAdd, Nat.reduceSub, Array.replicate_succ, Array.replicate_zero, List.push_toArray, List.append_toArray, List.nil_append, List.cons_append]
  gi_wp2_with (refine ⟨trivial, ?_⟩; gi_at_call 175; refine (callsIn_wide.2 (pinned_ok _ _)).mono ?_; rintro e w' ⟨rfl, rfl⟩)
  obtain ⟨w1, hw1⟩ : ∃ w1, w.alloc (.cells #[.int .i64 0] 3) = w1 := ⟨_, rfl⟩
  have q1 : Bk w1 w.heap.size 3 #[.int .i64 0] := by rw [← hw1]; exact Bk.new w _ _
  have q4 : w1.heap.size = w.heap.size + 1 := by rw [← hw1, World.size_alloc]
  have q5 : Below w.heap.size w w1 := by rw [← hw1]; exact (Below.refl _ _).alloc (Nat.le_refl _) _
  rw [hw1]
  clear hw1
  obtain ⟨w2, hw2⟩ : ∃ w2, w1.alloc (.cells #[.pointer a] 87) = w2 := ⟨_, rfl⟩
  have hx : w2.cell? ⟨w.heap.size + 1, 0, none⟩ = some (.pointer a) := by
    rw [← hw2, ← q4]; exact (Bk.new w1 _ _).cell 0
  have hal : Below w1.heap.size w1 w2 := by rw [← hw2]; exact (Below.refl _ _).alloc (Nat.le_refl _) _
  have hsz : w2.heap.size = w.heap.size + 2 := by rw [← hw2, World.size_alloc, q4]
  have hB0 : Below w.heap.size w w2 := q5.trans (hal.mono (by omega))
  rw [hw2]
  have k1 := q1.below hal
  clear hw2 q1 q5
  refine wpIn_rangeFunc_ownG rfl (by decide) (gf := 176) (lb := #[.pointer (some ⟨w.heap.size + 1, 0, none⟩)]) rfl trivial (enters_of Tryz.func176 (by kernel_rfl) rfl)
    (HSEQ.out w2 hsz hB0 hx) KpR.trans (kpR_b (by omega)) (Below.refl _ _) (fun _ => rfl)
    (UsJ w P) (fun _ _ _ => False)
    (fun s A B row hs hg hr => by
      obtain ⟨h1, h2, h3, h4⟩ := hs
      have hr2 := fun r e => (hr r e).2
      exact ⟨h1.grown' hg hr2, h2, Nat.le_trans h3 hg.size, ownFrom_below (β := Unit) (Nat.le_refl _) (by omega) () A B row h4 hg hr⟩)
    (fun _ _ _ _ _ hs _ _ => hs)
    ⟨k1, Nat.zero_le _, by omega, hB0⟩
    (fun x => { tmps := #[.pointer a, undef, .int .i64 0, .pointer (some ⟨w.heap.size, 0, none⟩), undef, .int .i64 (P.m x.1), .pointer a, .func (.func 176) #[] #[.pointer (some ⟨w.heap.size + 1, 0, none⟩)], .agg #[.int .i64 2, .int .i64 x.1, .int .u32 x.2], .int .i64 (P.m x.1), undef, undef, undef, undef], defers := [] }) ?assign ?body ?done ?stop
  case assign =>
    intro l x W K hK
    unfold encP
    gi_wp2
    exact hK
  case body =>
    rintro l pre x W ⟨k1, k2, k3, hB⟩ hlt
    have c1 := k1.cell 0
    have f1 := k1.frozen 0
    simp only [List.getElem?_toArray, List.getElem?_cons_zero] at c1
    have hs := sumP_snoc P pre x
    have hm2 := hm x.1
    have HK : Hid (∀ v : Nat, v = sumP P (pre ++ [x]) → KeepsFrom w2.heap.size W (W.setCell ⟨w.heap.size, 0, none⟩ (.int .i64 v)) ∧ KpR (· = w.heap.size) (w.heap.size + 2) W (W.setCell ⟨w.heap.size, 0, none⟩ (.int .i64 v)) ∧ UsJ w P (pre ++ [x]) (W.setCell ⟨w.heap.size, 0, none⟩ (.int .i64 v))) := fun v hv => by
      subst hv
      refine ⟨(KeepsOthers.setCell _ _ _).from _, ⟨by simp, fun g hg hne => Below.heap_setCell _ _ _ _ hne, fun g cs hb => Below.heap_setCell _ _ _ _ (by rintro rfl; exact absurd (hb.uniq k1).1 (by decide))⟩, k1.put 0 _, by rw [hs, List.length_append]; simp; omega, by simpa using k3, hB.setCell (p := ⟨_, 0, none⟩) (Nat.le_refl _) _⟩
    obtain ⟨sm, hsm⟩ : ∃ sm, sumP P pre = sm := ⟨_, rfl⟩
    obtain ⟨mx, hmx⟩ : ∃ mx, P.m x.1 = mx := ⟨_, rfl⟩
    rw [hsm] at c1 k2 hs
    rw [hmx] at hs hm2 ⊢
    have HS := Lib.hid hs
    have hb : sm ≤ 4194304 := by omega
    clear k1 k2 hB hsm hmx hs
    gi_wp2
    have h := HK.out (sm + mx) HS.out.symm
    rw [Int.natCast_add] at h
    exact h
  case done =>
    rintro D ys W hD rfl ⟨k1, _, _, hB⟩ hK
    have c1 := k1.cell 0
    simp only [List.getElem?_toArray, List.getElem?_cons_zero] at c1
    gi_wp2
    refine ⟨by simp, .inl ⟨_, _, rfl, run_takeDeferred hK, ?_⟩⟩
    exact ⟨_, results_tmp rfl _ _ _, rfl, hB.trans (belowK_b (w := w) (Nat.le_refl _) W D _ _ (by omega) hK rfl rfl)⟩
  case stop =>
    rintro D c pre W _ _ h _
    exact h.elim
theorem pused_ok (b s k : Nat) (P : Po) (w : World) (h : PW w b s k P) : Calls Tryz.prog 206 #[.pointer (some ⟨b, 0, none⟩)] w fun e w' => e = .returned (.int .i64 P.used) ∧ Below w.heap.size w w' := by
  have e : sumP P P.t.now = P.used := P.used_now
  rw [← e]
  refine used_of _ P P.t.now h.ok.m (fun pre => pre <+: P.t.now) P.t.now.length (by rw [Tb.now_len]; exact h.ok.held_len) w fun w2 hsz hB0 hx => ?_
  refine pin_stops 2 (by decide) (w.heap.size + 1) (w.heap.size + 2) b s k P _ w2 ⟨h.below hB0, hx, fun g hg => ?_, by omega, by omega, by omega⟩
  have := h.foot_lt hg
  exact ⟨by omega, by omega⟩
theorem pused_no (p : Option Addr) (w : World) (h : PInv w p) : Calls Tryz.prog 206 #[.pointer p] w fun e w' => e = .returned (.int .i64 0) ∧ Below w.heap.size w w' :=
  used_of p (pfresh 1 1 1) [] (fun _ => Nat.zero_le _) (fun _ => False) 0 (by decide) w fun w2 _ hB0 hx => pin_none 2 (by decide) _ p _ _ w2 (h.below hB0) hx

/-! ### All -/
theorem cell_three_new (w : World) (x y z : Value) (t : TypeId) : ∀ j u, [x, y, z][j]? = some u → (w.alloc (.cells #[x, y, z] t)).cell? ((⟨w.heap.size, 0, none⟩ : Addr).add j) = some u := by
  intro j u hj
  have e : (⟨w.heap.size, 0, none⟩ : Addr).add j = ⟨w.heap.size, j, none⟩ := by unfold Addr.add; split <;> simp_all
  rw [e, (Bk.new w t #[x, y, z]).cell]
  simpa using hj
theorem appended3 {W w1 : World} {n₀ n₁ B : Nat} {v v' : Value} {k m : Nat} {xs ys : List Value} {cs : Array Value}
    (hv : Boxed W B 51 v) (hrow : W.ownsRow n₁ 25 3 v k xs) (hn₁ : n₁ ≤ W.heap.size) (hB : n₀ ≤ B) (h01 : n₀ ≤ n₁)
    (hown' : w1.ownsRow n₁ 25 3 v' m ys) (hgrow : (W.alloc (.cells cs 25)).grownBy w1 v.ownBlock) :
    Boxed w1 B 51 v ∧ Boxed (w1.setCell ⟨B, 0, none⟩ v') B 51 v' ∧ (w1.setCell ⟨B, 0, none⟩ v').ownsRow n₁ 25 3 v' m ys ∧ KeepsOthers W (w1.setCell ⟨B, 0, none⟩ v') ∧ Below n₀ W (w1.setCell ⟨B, 0, none⟩ v') ∧ KpR (· = B) n₁ W (w1.setCell ⟨B, 0, none⟩ v') := by
  obtain ⟨h1, h2, h3, h4, h5, h6⟩ := appended2 (n₀ := n₀) hv (by decide) hrow hn₁ hB h01 hown' hgrow
  refine ⟨h1, h2, h3, h4, h5, h6.1, h6.2, fun g cs' hg => ?_⟩
  have hne : g ≠ B := by
    rintro rfl
    have : Bk W g 51 #[v] := hv
    exact absurd (hg.uniq this).1 (by decide)
  rw [Below.heap_setCell _ _ _ _ hne, hgrow.block g (by have := hg.lt; simp; omega) (fun e => absurd (own_type hrow e.symm hg) (by decide))]
  exact Below.heap_alloc _ _ _ hg.lt
/-- A new slice that holds l; nil just where there is none. -/
def NewO (l : List Ro) (w : World) (e : Ending) (w' : World) : Prop :=
  ∃ p c, e = .returned (.slice p l.length c) ∧ w'.ownsRow w.heap.size 25 3 (.slice p l.length c) l.length (ocls l) ∧ Below w.heap.size w w'
theorem all_snoc (l : List (Nat × Nat)) (x : Nat × Nat) : ocls ((l ++ [x]).map bro) = ocls (l.map bro) ++ [.int .i64 2, .int .i64 x.1, .int .u32 x.2] := by
  rw [List.map_append, ocls_append]
  rfl
set_option maxRecDepth 100000 in
set_option maxHeartbeats 4000000 in
theorem all_of (a : Option Addr) (P : Po) (L : List (Nat × Nat)) (Sp : List (Nat × Nat) → Prop) (N : Nat) (hN : N ≤ 64) (w : World)
    (hseq : ∀ w2, w2.heap.size = w.heap.size + 2 → Below w.heap.size w w2 → w2.cell? ⟨w.heap.size + 1, 0, none⟩ = some (.pointer a) →
      SeqStopsK Fence.wide 2 Tryz.prog 176 #[.pointer (some ⟨w.heap.size + 1, 0, none⟩)] (encP P) (KpR (· = w.heap.size) (w.heap.size + 2)) (fun ys => ys = L) Sp N w2) :
    Calls Tryz.prog 173 #[.pointer a] w (NewO (L.map bro) w) := by
  obtain ⟨i0, hi, hz0, hz1, hz2⟩ := info_parts info_out
  have HSEQ := Lib.hid hseq
  clear hseq
  refine (callsIn_wide (n := 3)).1 ?_
  refine callsIn_of_wp_marks Tryz.func173 rfl trivial ?_ rfl
  simp only [Tryz.ntmps173, List.size_toArray, List.length_cons, List.length_nil, Nat.reduceAdd, Nat.reduceSub, Array.replicate_succ, Array.replicate_zero, List.push_toArray, List.append_toArray, List.nil_append, List.cons_append]
  gi_wp2_with (refine ⟨trivial, ?_⟩; gi_at_call 175; refine (callsIn_wide.2 (pinned_ok _ _)).mono ?_; rintro e w' ⟨rfl, rfl⟩)
  have bO := Boxed.new w 51 (.slice none 0 0)
  obtain ⟨w1, hw1⟩ : ∃ w1, w.alloc (.cells #[.slice none 0 0] 51) = w1 := ⟨_, rfl⟩
  have q4 : w1.heap.size = w.heap.size + 1 := by rw [← hw1, World.size_alloc]
  have q5 : Below w.heap.size w w1 := by rw [← hw1]; exact (Below.refl _ _).alloc (Nat.le_refl _) _
  rw [hw1] at bO ⊢
  clear hw1
  obtain ⟨w2, hw2⟩ : ∃ w2, w1.alloc (.cells #[.pointer a] 87) = w2 := ⟨_, rfl⟩
  have hx : w2.cell? ⟨w.heap.size + 1, 0, none⟩ = some (.pointer a) := by
    rw [← hw2, ← q4]; exact (Bk.new w1 _ _).cell 0
  have bO2 : Boxed w2 w.heap.size 51 (.slice none 0 0) := by rw [← hw2]; exact bO.alloc _
  have hal : Below w1.heap.size w1 w2 := by rw [← hw2]; exact (Below.refl _ _).alloc (Nat.le_refl _) _
  have hsz : w2.heap.size = w.heap.size + 2 := by rw [← hw2, World.size_alloc, q4]
  have hB0 : Below w.heap.size w w2 := q5.trans (hal.mono (by omega))
  rw [hw2]
  clear hw2 bO q5
  refine wpIn_rangeFunc_ownH rfl (by decide) (gf := 176) (lb := #[.pointer (some ⟨w.heap.size + 1, 0, none⟩)]) rfl trivial (enters_of Tryz.func176 (by kernel_rfl) rfl)
    (HSEQ.out w2 hsz hB0 hx) KpR.trans (kpR_b (by omega)) (Below.refl _ _) (fun _ => rfl)
    (fun pre W => ((∃ v, Boxed W w.heap.size 51 v ∧ W.ownsRow (w.heap.size + 2) 25 3 v pre.length (ocls (pre.map bro)) ∧ (v = .slice none 0 0 ↔ pre = [])) ∧ w.heap.size + 2 ≤ W.heap.size) ∧ Below w.heap.size w W)
    (fun _ _ _ => False)
    (OwnFrom.and (OwnFrom.and (Own.from (holdsRow_own (w.heap.size + 2) w.heap.size 51 25 3 (fun pre => pre.length) (fun pre => ocls (pre.map bro)) (fun pre v => v = .slice none 0 0 ↔ pre = [])) _) (fun _ _ _ _ hs hg _ => Nat.le_trans hs hg.size)) (ownFrom_below (Nat.le_refl _) (by omega)))
    (fun _ _ _ _ _ hs _ _ => hs)
    ⟨⟨⟨_, bO2, World.ownsRow_nil _ _ _ _, by simp⟩, by omega⟩, hB0⟩
    (fun x a' W => ∃ B4, w.heap.size + 2 ≤ B4 ∧ Bk W B4 25 #[.int .i64 2, .int .i64 x.1, .int .u32 x.2] ∧ a' = { tmps := #[.pointer a, undef, .slice none 0 0, .pointer (some ⟨w.heap.size, 0, none⟩), .pointer (some ⟨B4, 0, none⟩), .pointer a, .func (.func 176) #[] #[.pointer (some ⟨w.heap.size + 1, 0, none⟩)], .agg #[.int .i64 2, .int .i64 x.1, .int .u32 x.2], .int .i64 (P.m x.1), undef, undef, undef, undef, undef], defers := [] })
    (fun x a' => fun s W W' row hs hg hr => by
      obtain ⟨B4, h1, h2, h3⟩ := hs
      exact ⟨B4, h1, h2.grown hg (fun r e => (hr r e).2), h3⟩) ?assign ?body ?done ?stop
  case assign =>
    rintro l pre x W K ⟨⟨⟨v, hv, hrow, hnil⟩, hsW⟩, hB⟩ hK
    have HK := Lib.hid hK
    clear hK
    unfold encP
    gi_wp2
    have hal : Below W.heap.size W (W.alloc (.cells #[.int .i64 2, .int .i64 x.1, .int .u32 x.2] 25)) := (Below.refl _ W).alloc (Nat.le_refl _) _
    exact HK.out _ _ ((KeepsOthers.alloc W _).from _) (KpR.of_below hal hsW) ⟨⟨⟨v, hv.alloc _, hrow.alloc _, hnil⟩, Nat.le_trans hsW hal.size⟩, hB.alloc (by omega) _⟩ ⟨W.heap.size, hsW, Bk.new W _ _, rfl⟩
  case body =>
    rintro l pre x a' W _ _ ⟨⟨⟨v, hv, hrow, hnil⟩, hsW⟩, hB⟩ ⟨B4, hB4, hbk, rfl⟩ hlt2
    have hc := hv.cell
    have hb0 := hbk.cell 0
    have hb1 := hbk.cell 1
    have hb2' := hbk.cell 2
    simp only [List.getElem?_toArray, List.getElem?_cons_zero, List.getElem?_cons_succ] at hb0 hb1 hb2'
    have hsn := all_snoc pre x
    obtain ⟨i, y⟩ := x
    simp only at hsn hb0 hb1 hb2' ⊢
    gi_wp2_with (gi_at_builtin; refine wpListIn_append_own _ rfl _ _ 51 rfl (w.heap.size + 2) 25 i0 (.agg #[.int .i64 0, .int .i64 0, .int .u32 0]) 3 24 Tryz.underlying51 hi hz0 hz1 hz2 rfl (by decide) _ _ _ rfl (hrow.alloc _) ⟨W.heap.size, 0, none⟩ 1 1 [.int .i64 2, .int .i64 i, .int .u32 y] rfl rfl (cell_three_new _ _ _ _ _) (by simp [Value.oneCell']) (by unfold maxLen; omega) (by omega) (by simp; omega) ?_; intro v' w1 hown' hgrow _; obtain ⟨g', cap', rfl⟩ := ownsRow_succ hown'; obtain ⟨hv1, hv2, hr2, hk2, hb2, hkp⟩ := appended3 (n₀ := w.heap.size) hv hrow hsW (Nat.le_refl _) (by omega) hown' hgrow; have hc1 := hv1.cell; have hf1 := hv1.frozen)
    exact ⟨hk2.from _, hkp, ⟨⟨_, hv2, by rw [hsn]; simpa using hr2, by simp⟩, Nat.le_trans hsW hb2.size⟩, hB.trans hb2⟩
  case done =>
    rintro D ys W hD rfl ⟨⟨⟨v, hv, hrow, hnil⟩, _⟩, hB⟩ hK
    have hc := hv.cell
    gi_wp2
    refine ⟨by simp, .inl ⟨_, _, rfl, run_takeDeferred hK, ?_⟩⟩
    obtain ⟨p, c, rfl⟩ := own_form hrow
    have hl : (ys.map bro).length = ys.length := by simp
    refine ⟨_, results_tmp rfl _ _ _, p, c, by rw [hl]; rfl, ?_, hB.trans (belowK_b (w := w) (Nat.le_refl _) W D _ _ (by omega) hK rfl rfl)⟩
    rw [hl]; exact own_lower (ownsRow_putObj hrow _ hK rfl) (by omega)
  case stop =>
    rintro D c pre W _ _ h _
    exact h.elim
theorem pall_ok (b s k : Nat) (P : Po) (w : World) (h : PW w b s k P) : Calls Tryz.prog 173 #[.pointer (some ⟨b, 0, none⟩)] w (NewO P.all w) := by
  refine all_of _ P P.t.now (fun pre => pre <+: P.t.now) P.t.now.length (by rw [Tb.now_len]; exact h.ok.held_len) w fun w2 hsz hB0 hx => ?_
  refine pin_stops 2 (by decide) (w.heap.size + 1) (w.heap.size + 2) b s k P _ w2 ⟨h.below hB0, hx, fun g hg => ?_, by omega, by omega, by omega⟩
  have := h.foot_lt hg
  exact ⟨by omega, by omega⟩
theorem pall_no (p : Option Addr) (w : World) (h : PInv w p) : Calls Tryz.prog 173 #[.pointer p] w (NewO [] w) :=
  all_of p (pfresh 1 1 1) [] (fun _ => False) 0 (by decide) w fun w2 _ hB0 hx => pin_none 2 (by decide) _ p _ _ w2 (h.below hB0) hx
end Go.Proofs.YtpinmiplefidpaaGreatDoor.BF

namespace Go.Proofs.YtpinmiplefidpaaGreatDoor.BF
open Go.RowKit

/-- What Pin makes of a pool. -/
def PinV (b s k : Nat) (P : Po) (x : Int) (w : World) (e : Ending) (w' : World) : Prop :=
  e = .returned (.tuple #[.agg #[.int .i64 (P.pK x), .int .i64 (P.pI x), .int .u32 (P.pG x)], .int .i64 (P.can x)]) ∧ PW w' b s k (P.pin x) ∧ Kept (fun g => g = s ∨ g = k) w w'
set_option maxRecDepth 100000 in
theorem ppin_inv (p : Option Addr) (x : Int) (w : World) (h : PInv w p) : Calls Tryz.prog 203 #[.pointer p, .int .i64 x] w fun e w' => e = .returned (.tuple #[.agg #[.int .i64 0, .int .i64 0, .int .u32 0], .int .i64 1]) ∧ Below w.heap.size w w' := by
  have H := Lib.hid (h.below ((Below.refl _ w).alloc (Nat.le_refl _) (.cells #[.int .i64 0, .int .i64 0, .int .u32 0] 25)))
  clear h
  go_enter Tryz.func203, Tryz.ntmps203
  go_wp2_with (go_at_call 177; refine (pvalid_no _ _ H.out).mono ?_; rintro e w' ⟨rfl, rfl⟩)
  refine bodyPost_ret (v := .tuple #[.agg #[.int .i64 0, .int .i64 0, .int .u32 0], .int .i64 1]) (by simp [results, Tryz.results203, go_sem]) rfl ⟨rfl, ?_⟩
  exact (Below.refl _ w).alloc (Nat.le_refl _) _
set_option maxRecDepth 100000 in
theorem ppin_arg (b s k : Nat) (P : Po) (x : Int) (w : World) (h : PW w b s k P) (hx : x < 1 ∨ 65536 < x) : Calls Tryz.prog 203 #[.pointer (some ⟨b, 0, none⟩), .int .i64 x] w fun e w' => e = .returned (.tuple #[.agg #[.int .i64 0, .int .i64 0, .int .u32 0], .int .i64 2]) ∧ Below w.heap.size w w' := by
  have H := Lib.hid (h.below ((Below.refl _ w).alloc (Nat.le_refl _) (.cells #[.int .i64 0, .int .i64 0, .int .u32 0] 25))).c0
  clear h
  by_cases h0 : x < 1
  all_goals
    first | have h1 : 65536 < x := by omega | skip
    clear hx
    go_enter Tryz.func203, Tryz.ntmps203
    go_wp2_with (go_at_call 177; refine (pvalid_yes _ s _ H.out).mono ?_; rintro e w' ⟨rfl, rfl⟩)
    refine bodyPost_ret (v := .tuple #[.agg #[.int .i64 0, .int .i64 0, .int .u32 0], .int .i64 2]) (by simp [results, Tryz.results203, go_sem]) rfl ⟨rfl, ?_⟩
    exact (Below.refl _ w).alloc (Nat.le_refl _) _
/-- Three cells written. -/
theorem three_put {W : World} {g : Nat} {t : TypeId} {a b c : Value} (h : Bk W g t #[a, b, c]) (x y z : Value) : Bk (((W.setCell ⟨g, 0, none⟩ x).setCell ⟨g, 1, none⟩ y).setCell ⟨g, 2, none⟩ z) g t #[x, y, z] := ((h.put 0 x).put 1 y).put 2 z
set_option maxHeartbeats 2000000 in
set_option maxRecDepth 100000 in
theorem ppin_full (b s k : Nat) (P : Po) (x : Int) (w : World) (h : PW w b s k P) (h1 : 1 ≤ x) (h2 : x ≤ 65536) (h3 : (P.room : Int) < P.used + x) : Calls Tryz.prog 203 #[.pointer (some ⟨b, 0, none⟩), .int .i64 x] w fun e w' => e = .returned (.tuple #[.agg #[.int .i64 0, .int .i64 0, .int .u32 0], .int .i64 4]) ∧ Below w.heap.size w w' := by
  obtain ⟨w4, hw4⟩ : ∃ w4, w.alloc (.cells #[.int .i64 0, .int .i64 0, .int .u32 0] 25) = w4 := ⟨_, rfl⟩
  have B4 : Below w.heap.size w w4 := by rw [← hw4]; exact (Below.refl _ w).alloc (Nat.le_refl _) _
  have n4 : Bk w4 w.heap.size 25 #[.int .i64 0, .int .i64 0, .int .u32 0] := by rw [← hw4]; exact Bk.new w _ _
  have HS : Hid (∀ W, Below w4.heap.size w4 W → W.cell? ⟨b, 0, none⟩ = some (.pointer (some ⟨s, 0, none⟩)) ∧ W.cell? ⟨s, 1, none⟩ = some (.int .i64 P.room) ∧ Bk W w.heap.size 25 #[.int .i64 0, .int .i64 0, .int .u32 0] ∧ Below w.heap.size w W) := fun W hW =>
    ⟨((h.below B4).below hW).c0, ((h.below B4).below hW).s1, n4.below hW, bel2 B4 hW⟩
  have US : Hid (∀ W, Below w.heap.size w W → Calls Tryz.prog 206 #[.pointer (some ⟨b, 0, none⟩)] W fun e w' => e = .returned (.int .i64 P.used) ∧ Below W.heap.size W w') := fun W hW => pused_ok b s k P W (h.below hW)
  have HB4 := Lib.hid B4
  have HW4 := Lib.hid hw4
  have hu := h.ok.used_le
  have hr := h.ok.room
  obtain ⟨s0, s1, _⟩ := HS.out w4 (Below.refl _ _)
  clear h B4 n4 hw4
  generalize P.used = U at *
  generalize P.room = R at *
  have hwr : IntKind.i64.wrap ((U : Int) + x) = U + x := by rw [IntKind.wrap_i64]; omega
  go_enter Tryz.func203, Tryz.ntmps203
  go_wp2_with (go_at_call 177; refine (pvalid_yes _ s _ (by rw [HW4.out]; exact s0)).mono ?_; rintro e w' ⟨rfl, rfl⟩)
  rw [HW4.out]
  go_region_held3 (fun W => W.cell? ⟨b, 0, none⟩ = some (.pointer (some ⟨s, 0, none⟩)) ∧ W.cell? ⟨s, 1, none⟩ = some (.int .i64 R)) (first | (exact ⟨s0, s1⟩) | (with_reducible exact hz1)) (first
    | (go_at_call 206; (with_reducible refine (US.out _ (bel_drew HB4.out)).mono ?_); rintro e w5 ⟨rfl, hb5⟩; have HS5 := HS.out w5 (bel2 (bel_drew (Below.refl _ w4)) hb5); have hz1 := And.intro HS5.1 HS5.2.1; have HB5 := Lib.hid HS5.2.2; clear hb5 HS5))
  all_goals
    obtain ⟨q1, q2⟩ := HB5.out
    have d0 := q1.cell 0
    have d1 := q1.cell 1
    have d2 := q1.cell 2
    have f0 := q1.frozen 0
    have f1 := q1.frozen 1
    have f2 := q1.frozen 2
    simp only [List.getElem?_toArray, List.getElem?_cons_zero, List.getElem?_cons_succ] at d0 d1 d2
    have HT := Lib.hid (three_put q1 (.int .i64 0) (.int .i64 0) (.int .u32 0))
    have HQ := Lib.hid q2
    clear q1 q2
    go_wp2
    have t0 := HT.out.cell 0
    have t1 := HT.out.cell 1
    have t2 := HT.out.cell 2
    simp only [List.getElem?_toArray, List.getElem?_cons_zero, List.getElem?_cons_succ] at t0 t1 t2
    refine bodyPost_ret (v := .tuple #[.agg #[.int .i64 0, .int .i64 0, .int .u32 0], .int .i64 4]) (by simp [results, Tryz.results203, go_sem, t0, t1, t2]) rfl ⟨rfl, ?_⟩
    exact ((HQ.out.setCell (p := ⟨_, _, none⟩) (by simp) _).setCell (p := ⟨_, _, none⟩) (by simp) _).setCell (p := ⟨_, _, none⟩) (by simp) _
theorem laid3 {W : World} {g : Nat} {t : TypeId} {a b c : Value} (h : Bk W g t #[a, b, c]) : W.cell? ⟨g, 0, none⟩ = some a ∧ W.cell? ⟨g, 1, none⟩ = some b ∧ W.cell? ⟨g, 2, none⟩ = some c ∧ W.frozen? ⟨g, 0, none⟩ = false ∧ W.frozen? ⟨g, 1, none⟩ = false ∧ W.frozen? ⟨g, 2, none⟩ = false := ⟨h.cell 0, h.cell 1, h.cell 2, h.frozen 0, h.frozen 1, h.frozen 2⟩
theorem _root_.Go.Proofs.YtpinmiplefidpaaGreatDoor.TabW.cells_eq {w : World} {k : Nat} {T U : Tb} (h : TabW w k T) (e : T = U) : TabW w k U := by rw [← e]; exact h
set_option maxHeartbeats 2000000 in
set_option maxRecDepth 100000 in
theorem ppin_none (b s k : Nat) (P : Po) (x : Int) (w : World) (h : PW w b s k P) (h1 : 1 ≤ x) (h2 : x ≤ 65536) (h3 : (P.used : Int) + x ≤ P.room) (h4 : P.t.free = []) : Calls Tryz.prog 203 #[.pointer (some ⟨b, 0, none⟩), .int .i64 x] w fun e w' => e = .returned (.tuple #[.agg #[.int .i64 0, .int .i64 0, .int .u32 0], .int .i64 4]) ∧ PW w' b s k P ∧ Kept (fun g => g = s ∨ g = k) w w' := by
  obtain ⟨w4, hw4⟩ : ∃ w4, w.alloc (.cells #[.int .i64 0, .int .i64 0, .int .u32 0] 25) = w4 := ⟨_, rfl⟩
  have B4 : Below w.heap.size w w4 := by rw [← hw4]; exact (Below.refl _ w).alloc (Nat.le_refl _) _
  have n4 : Bk w4 w.heap.size 25 #[.int .i64 0, .int .i64 0, .int .u32 0] := by rw [← hw4]; exact Bk.new w _ _
  have HS : Hid (∀ W, Below w4.heap.size w4 W → W.cell? ⟨b, 0, none⟩ = some (.pointer (some ⟨s, 0, none⟩)) ∧ W.cell? ⟨s, 1, none⟩ = some (.int .i64 P.room) ∧ W.cell? ⟨s, 0, none⟩ = some (.pointer (some ⟨k, 0, none⟩)) ∧ Bk W w.heap.size 25 #[.int .i64 0, .int .i64 0, .int .u32 0] ∧ Below w.heap.size w W) := fun W hW =>
    ⟨((h.below B4).below hW).c0, ((h.below B4).below hW).s1, ((h.below B4).below hW).s0, n4.below hW, bel2 B4 hW⟩
  have US : Hid (∀ W, Below w.heap.size w W → Calls Tryz.prog 206 #[.pointer (some ⟨b, 0, none⟩)] W fun e w' => e = .returned (.int .i64 P.used) ∧ Below W.heap.size W w') := fun W hW => pused_ok b s k P W (h.below hW)
  have HB4 := Lib.hid B4
  have HW4 := Lib.hid hw4
  have TK : Hid (∀ W, Below w.heap.size w W → Calls Tryz.prog 188 #[.pointer (some ⟨k, 0, none⟩)] W fun e w' => e = .returned (.tuple #[.agg #[.int .i64 0, .int .u32 0], .int .i64 4]) ∧ PW w' b s k P ∧ Kept (· = k) W w' ∧ Kept (fun g => g = s ∨ g = k) w w') := fun W hW => by
    refine (take_ok k P.t W (h.below hW).tab).mono ?_
    rintro e w' ⟨rfl, hT, hk⟩
    have e1 : P.t.take = P.t := by unfold Tb.take; rw [h4]
    have e2 : P.t.tI = 0 := by unfold Tb.tI; rw [h4]
    have e3 : P.t.tG = 0 := by unfold Tb.tG; rw [h4]
    have e4 : P.t.tE = 4 := by unfold Tb.tE; rw [h4]
    rw [e2, e3, e4]
    rw [e1] at hT
    exact ⟨rfl, ⟨h.ok, (h.below hW).hb.kept hk h.bk, (h.below hW).hs.kept hk h.sk, hT⟩, hk, (Kept.of_below hW).trans (hk.mono fun _ _ e => .inr e)⟩
  have KT : Hid (k < w.heap.size) := h.tab.bt
  have FT : Hid (∀ g, PFoot b s k g → g < w.heap.size) := fun g hg => h.foot_lt hg
  have hu := h.ok.used_le
  have hr := h.ok.room
  obtain ⟨s0, s1, s2, _⟩ := HS.out w4 (Below.refl _ _)
  clear h B4 n4 hw4 h4
  generalize P.used = U at *
  generalize P.room = R at *
  have hwr : IntKind.i64.wrap ((U : Int) + x) = U + x := by rw [IntKind.wrap_i64]; omega
  go_enter Tryz.func203, Tryz.ntmps203
  go_wp2_with (go_at_call 177; refine (pvalid_yes _ s _ (by rw [HW4.out]; exact s0)).mono ?_; rintro e w' ⟨rfl, rfl⟩)
  rw [HW4.out]
  go_region_held3 (fun W => W.cell? ⟨b, 0, none⟩ = some (.pointer (some ⟨s, 0, none⟩)) ∧ W.cell? ⟨s, 1, none⟩ = some (.int .i64 R)) (first | (exact ⟨s0, s1⟩) | (with_reducible exact hz1)) (first
    | (go_at_call 206; (with_reducible refine (US.out _ (bel_drew HB4.out)).mono ?_); rintro e w5 ⟨rfl, hb5⟩; have HS5 := HS.out w5 (bel2 (bel_drew (Below.refl _ w4)) hb5); have hz1 := And.intro HS5.1 HS5.2.1; have HB5 := Lib.hid HS5.2.2; clear hb5 HS5))
  all_goals
    obtain ⟨z1, z2⟩ := hz1
    have z3 := HB5.out.1
    go_wp2_with (go_at_call 188; refine (TK.out w5 HB5.out.2.2).mono ?_; rintro e w6 ⟨rfl, hp, hk6, hk⟩; have HP := Lib.hid (And.intro hp hk); have HO := Lib.hid (HB5.out.2.1.kept hk6 (by have := KT.out; omega)); obtain ⟨d0, d1, d2, f0, f1, f2⟩ := laid3 HO.out; have hl6 := HO.out.lt; clear hp hk6 hk)
    have HT := Lib.hid ((three_put HO.out (.int .i64 0) (.int .i64 0) (.int .u32 0)).up (.cells #[.int .i64 0, .int .u32 0] 193))
    have t0 := HT.out.cell 0
    have t1 := HT.out.cell 1
    have t2 := HT.out.cell 2
    simp only [List.getElem?_toArray, List.getElem?_cons_zero, List.getElem?_cons_succ] at t0 t1 t2
    refine bodyPost_ret (v := .tuple #[.agg #[.int .i64 0, .int .i64 0, .int .u32 0], .int .i64 4]) (by simp [results, Tryz.results203, go_sem, t0, t1, t2]) rfl ⟨rfl, ?_⟩
    have hkp := (((((Kept.refl (· = w.heap.size) w6).put1 0 (.int .i64 0)).put1 1 (.int .i64 0)).put1 2 (.int .u32 0)).alloc (.cells #[.int .i64 0, .int .u32 0] 193))
    exact ⟨HP.out.1.kept hkp (fun g hg e => by have := FT.out g hg; omega), HP.out.2.self (hkp.mono fun g _ e => Or.inr (Nat.le_of_eq e.symm))⟩
end Go.Proofs.YtpinmiplefidpaaGreatDoor.BF

namespace Go.Proofs.YtpinmiplefidpaaGreatDoor.BF
open Go.RowKit

set_option maxHeartbeats 2000000 in
set_option maxRecDepth 100000 in
theorem ppin_yes (b s k : Nat) (P : Po) (x : Int) (w : World) (h : PW w b s k P) (h1 : 1 ≤ x) (h2 : x ≤ 65536) (h3 : (P.used : Int) + x ≤ P.room) (i : Nat) (r : List Nat) (h4 : P.t.free = i :: r) : Calls Tryz.prog 203 #[.pointer (some ⟨b, 0, none⟩), .int .i64 x] w fun e w' => e = .returned (.tuple #[.agg #[.int .i64 2, .int .i64 i, .int .u32 (P.t.g i)], .int .i64 0]) ∧ PW w' b s k (P.put i x.toNat) ∧ Kept (fun g => g = s ∨ g = k) w w' := by
  obtain ⟨y, rfl⟩ : ∃ y : Nat, x = y := ⟨x.toNat, by omega⟩
  rw [Int.toNat_natCast]
  obtain ⟨hin, _⟩ := Tb.free_lt h4
  have hi := h.ok.hi
  have hg1 := h.ok.t.gm i
  obtain ⟨w4, hw4⟩ : ∃ w4, w.alloc (.cells #[.int .i64 0, .int .i64 0, .int .u32 0] 25) = w4 := ⟨_, rfl⟩
  have B4 : Below w.heap.size w w4 := by rw [← hw4]; exact (Below.refl _ w).alloc (Nat.le_refl _) _
  have n4 : Bk w4 w.heap.size 25 #[.int .i64 0, .int .i64 0, .int .u32 0] := by rw [← hw4]; exact Bk.new w _ _
  have HS : Hid (∀ W, Below w4.heap.size w4 W → W.cell? ⟨b, 0, none⟩ = some (.pointer (some ⟨s, 0, none⟩)) ∧ W.cell? ⟨s, 1, none⟩ = some (.int .i64 P.room) ∧ W.cell? ⟨s, 0, none⟩ = some (.pointer (some ⟨k, 0, none⟩)) ∧ Bk W w.heap.size 25 #[.int .i64 0, .int .i64 0, .int .u32 0] ∧ Below w.heap.size w W) := fun W hW =>
    ⟨((h.below B4).below hW).c0, ((h.below B4).below hW).s1, ((h.below B4).below hW).s0, n4.below hW, bel2 B4 hW⟩
  have US : Hid (∀ W, Below w.heap.size w W → Calls Tryz.prog 206 #[.pointer (some ⟨b, 0, none⟩)] W fun e w' => e = .returned (.int .i64 P.used) ∧ Below W.heap.size W w') := fun W hW => pused_ok b s k P W (h.below hW)
  have HB4 := Lib.hid B4
  have HW4 := Lib.hid hw4
  have TK : Hid (∀ W, Below w.heap.size w W → Calls Tryz.prog 188 #[.pointer (some ⟨k, 0, none⟩)] W fun e w' => e = .returned (.tuple #[.agg #[.int .i64 i, .int .u32 (P.t.g i)], .int .i64 0]) ∧ PW w' b s k ⟨P.t.took i, P.room, P.m⟩ ∧ Kept (· = k) W w' ∧ Kept (fun g => g = s ∨ g = k) w w') := fun W hW => by
    refine (take_ok k P.t W (h.below hW).tab).mono ?_
    rintro e w' ⟨rfl, hT, hk⟩
    have e1 : P.t.take = P.t.took i := by unfold Tb.take; rw [h4]
    have e2 : P.t.tI = i := by unfold Tb.tI; rw [h4]
    have e3 : P.t.tG = P.t.g i := by unfold Tb.tG; rw [h4]
    have e4 : P.t.tE = 0 := by unfold Tb.tE; rw [h4]
    rw [e2, e3, e4]
    rw [e1] at hT
    exact ⟨rfl, ⟨⟨h.ok.t.took i, h.ok.hi, h.ok.room, h.ok.m⟩, (h.below hW).hb.kept hk h.bk, (h.below hW).hs.kept hk h.sk, hT⟩, hk, (Kept.of_below hW).trans (hk.mono fun _ _ e => .inr e)⟩
  have HPO : Hid ((P.put i y).Ok) := h.ok.put i (by omega)
  have KT : Hid (k < w.heap.size) := h.tab.bt
  have FT : Hid (∀ g, PFoot b s k g → g < w.heap.size) := fun g hg => h.foot_lt hg
  have hu := h.ok.used_le
  have hr := h.ok.room
  obtain ⟨s0, s1, s2, _⟩ := HS.out w4 (Below.refl _ _)
  have hi64 : (i : Int) < 64 := by omega
  have hiN : i < 64 := by omega
  clear h B4 n4 hw4 h4
  obtain ⟨U, hU⟩ : ∃ U, P.used = U := ⟨_, rfl⟩
  obtain ⟨R, hR⟩ : ∃ R, P.room = R := ⟨_, rfl⟩
  obtain ⟨G, hG⟩ : ∃ G, P.t.g i = G := ⟨_, rfl⟩
  obtain ⟨M, hM⟩ : ∃ M, P.m i = M := ⟨_, rfl⟩
  rw [hU] at US hu h3
  rw [hR] at hr h3 s1
  rw [hG] at hg1 TK ⊢
  have HRM := Lib.hid (And.intro hR hM)
  clear hU hR hG hM
  have hwr : IntKind.i64.wrap ((U : Int) + y) = U + y := by rw [IntKind.wrap_i64]; omega
  go_enter Tryz.func203, Tryz.ntmps203
  go_wp2_with (go_at_call 177; refine (pvalid_yes _ s _ (by rw [HW4.out]; exact s0)).mono ?_; rintro e w' ⟨rfl, rfl⟩)
  rw [HW4.out]
  go_region_held3 (fun W => W.cell? ⟨b, 0, none⟩ = some (.pointer (some ⟨s, 0, none⟩)) ∧ W.cell? ⟨s, 1, none⟩ = some (.int .i64 R)) (first | (exact ⟨s0, s1⟩) | (with_reducible exact hz1)) (first
    | (go_at_call 206; (with_reducible refine (US.out _ (bel_drew HB4.out)).mono ?_); rintro e w5 ⟨rfl, hb5⟩; have HS5 := HS.out w5 (bel2 (bel_drew (Below.refl _ w4)) hb5); have hz1 := And.intro HS5.1 (HRM.out.1 ▸ HS5.2.1); have HB5 := Lib.hid HS5.2.2; clear hb5 HS5))
  all_goals
    obtain ⟨z1, z2⟩ := hz1
    have z3 := HB5.out.1
    go_wp2_with (go_at_call 188; refine (TK.out w5 HB5.out.2.2).mono ?_; rintro e w6 ⟨rfl, hp, hk6, hk⟩; have HP := Lib.hid (And.intro hp hk); have HO := Lib.hid (HB5.out.2.1.kept hk6 (by have := KT.out; omega)); clear hp hk6 hk)
    obtain ⟨W8, h8⟩ : ∃ W8, w6.alloc (.cells #[.int .i64 i, .int .u32 G] 193) = W8 := ⟨_, rfl⟩
    obtain ⟨I, hI⟩ : ∃ I, w6.heap.size = I := ⟨_, rfl⟩
    have p8 : PW W8 b s k ⟨P.t.took i, P.room, P.m⟩ := by rw [← h8]; exact HP.out.1.below ((Below.refl _ _).alloc (Nat.le_refl _) _)
    have o8 : Bk W8 w.heap.size 25 #[.int .i64 0, .int .i64 0, .int .u32 0] := by rw [← h8]; exact HO.out.up _
    have i8 : Bk W8 I 193 #[.int .i64 i, .int .u32 G] := by rw [← h8, ← hI]; exact Bk.new w6 _ _
    have k8 : Kept (fun g => g = s ∨ g = k) w W8 := by rw [← h8]; exact HP.out.2.alloc _
    have hIg : w.heap.size < I := by rw [← hI]; exact HO.out.lt
    rw [h8, hI]
    clear h8 hI HP HO z1 z2 z3
    have x0 := p8.c0
    have x1 := p8.sm hiN
    have x2 := p8.fz (2 + i)
    have x5 := i8.cell 0
    simp only [List.getElem?_toArray, List.getElem?_cons_zero, HRM.out.2] at x1 x5
    have HL := Lib.hid (And.intro p8 (And.intro o8 (And.intro i8 (And.intro k8 hIg))))
    clear p8 o8 i8 k8 hIg
    go_region
    obtain ⟨W9, h9⟩ : ∃ W9, (W8.setCell ⟨s, 2 + i, none⟩ (.int .i64 y)).drew = W9 := ⟨_, rfl⟩
    obtain ⟨p8, o8, i8, k8, hIg⟩ := HL.out
    have e9 : ∀ g, g ≠ s → W9.heap[g]? = W8.heap[g]? := fun g hg => by rw [← h9]; exact Below.heap_setCell _ _ _ _ hg
    have p9 : PW W9 b s k (P.put i y) := ⟨HPO.out, p8.hb.same (e9 b p8.bs), by
      have := p8.hs.put (2 + i) (.int .i64 y)
      rw [scells_put_m] at this
      rw [← h9]; exact this, p8.tab.same (e9 k (fun e => p8.sk e.symm))⟩
    have hs1 : s ≠ w.heap.size := by have := FT.out s (.inr (.inl rfl)); omega
    have hs2 : s ≠ I := by have := FT.out s (.inr (.inl rfl)); omega
    have o9 := o8.same (e9 w.heap.size (fun e => hs1 e.symm))
    have i9 := i8.same (e9 I (fun e => hs2 e.symm))
    have k9 : Kept (fun g => g = s ∨ g = k) w W9 := by rw [← h9]; exact (k8.put (p := ⟨s, 2 + i, none⟩) (.inr (.inl rfl)) _).drew
    rw [h9]
    clear h9 e9 p8 o8 i8 k8 HL x0 x1 x2 x5 hs1 hs2
    have j0 := i9.cell 0
    have j1 := i9.cell 1
    simp only [List.getElem?_toArray, List.getElem?_cons_zero, List.getElem?_cons_succ] at j0 j1
    have HL := Lib.hid (And.intro p9 (And.intro o9 (And.intro k9 (And.intro hIg i9.lt))))
    clear p9 o9 i9 k9 hIg
    go_wp2_with (go_at_call 178; refine (buffer_ok i G W9 (by omega) (by omega) (by omega) (by omega)).mono ?_; rintro e w10 ⟨rfl, hb10⟩; have HB10 := Lib.hid hb10; obtain ⟨d0, d1, d2, f0, f1, f2⟩ := laid3 (HL.out.2.1.below hb10); clear hb10)
    have HO := Lib.hid (HL.out.2.1.below HB10.out)
    have t := three_put HO.out (.int .i64 2) (.int .i64 i) (.int .u32 G)
    have t0 := t.cell 0
    have t1 := t.cell 1
    have t2 := t.cell 2
    simp only [List.getElem?_toArray, List.getElem?_cons_zero, List.getElem?_cons_succ] at t0 t1 t2
    refine bodyPost_ret (v := .tuple #[.agg #[.int .i64 2, .int .i64 i, .int .u32 G], .int .i64 0]) (by simp [results, Tryz.results203, go_sem, t0, t1, t2]) rfl ⟨rfl, ?_⟩
    have hkp := ((((Kept.refl (· = w.heap.size) w10).put1 0 (.int .i64 2)).put1 1 (.int .i64 i)).put1 2 (.int .u32 G))
    exact ⟨(HL.out.1.below HB10.out).kept hkp (fun g hg e => by have := FT.out g hg; omega), (HL.out.2.2.1.trans (Kept.of_below HB10.out)).self (hkp.mono fun g _ e => Or.inr (Nat.le_of_eq e.symm))⟩
/-- Pin, whatever is asked. -/
theorem ppin_any (b s k : Nat) (P : Po) (x : Int) (w : World) (h : PW w b s k P) : Calls Tryz.prog 203 #[.pointer (some ⟨b, 0, none⟩), .int .i64 x] w (PinV b s k P x w) := by
  unfold PinV
  rcases Po.can_cases P x with ⟨h1, h2⟩ | ⟨h1, h2, h3, h4⟩ | ⟨h1, h2, h3, h4, h5⟩ | ⟨h1, h2, h3, i, r, h4, h5⟩
  · obtain ⟨e1, e2, e3, e4⟩ := Po.pin_ne (P := P) (x := x) (by omega)
    rw [e1, e2, e3, e4, h2]
    exact (ppin_arg b s k P x w h h1).mono fun e w' ⟨g1, g2⟩ => ⟨g1, h.below g2, Kept.of_below g2⟩
  · obtain ⟨e1, e2, e3, e4⟩ := Po.pin_ne (P := P) (x := x) (by omega)
    rw [e1, e2, e3, e4, h4]
    exact (ppin_full b s k P x w h h1 h2 h3).mono fun e w' ⟨g1, g2⟩ => ⟨g1, h.below g2, Kept.of_below g2⟩
  · obtain ⟨e1, e2, e3, e4⟩ := Po.pin_ne (P := P) (x := x) (by omega)
    rw [e1, e2, e3, e4, h5]
    exact ppin_none b s k P x w h h1 h2 h3 h4
  · obtain ⟨e1, e2, e3, e4⟩ := Po.pin_zero h5 h4
    rw [e1, e2, e3, e4, h5]
    exact ppin_yes b s k P x w h h1 h2 h3 i r h4
end Go.Proofs.YtpinmiplefidpaaGreatDoor.BF

namespace Go.Proofs.YtpinmiplefidpaaGreatDoor.BF
open Go.RowKit

/-- A pool of the program's, in memory that was made since w0. -/
structure PSt (w0 w : World) (b s k : Nat) (P : Po) : Prop where
  f : PW w b s k P
  bel : Below w0.heap.size w0 w
  lo : ∀ g, PFoot b s k g → w0.heap.size ≤ g
section
variable {w0 w w' : World} {b s k : Nat} {P Q : Po}
theorem PSt.quiet (h : PSt w0 w b s k P) (q : Below w.heap.size w w') : PSt w0 w' b s k P := ⟨h.f.below q, bel2 h.bel q, h.lo⟩
theorem PSt.step (h : PSt w0 w b s k P) (q : Kept (PFoot b s k) w w') (hf : PW w' b s k Q) : PSt w0 w' b s k Q :=
  ⟨hf, h.bel.trans (q.below h.bel.size h.lo), h.lo⟩
theorem PSt.new (h : PNew P w b w') : ∃ s k, PSt w w' b s k P := by
  obtain ⟨s, k, h1, h2, h3⟩ := h
  exact ⟨s, k, h1, h3, h2⟩
/-- A block of another type is no part of a pool. -/
theorem PW.box {A : Nat} {t : TypeId} {cs : Array Value} (h : PW w b s k P) (hA : Bk w A t cs) (ht1 : t ≠ 159) (ht2 : t ≠ 210) (ht3 : t ≠ 157) : ¬ PFoot b s k A := by
  rintro (rfl | rfl | rfl)
  · exact ht1 (hA.uniq h.hb).1
  · exact ht3 (hA.uniq h.hs).1
  · exact ht2 (hA.uniq h.tab.bk).1
theorem PW.keep {A : Nat} {t : TypeId} {cs : Array Value} (h : PW w b s k P) (hA : Bk w A t cs) (q : Kept (PFoot b s k) w w') (ht1 : t ≠ 159 := by decide) (ht2 : t ≠ 210 := by decide) (ht3 : t ≠ 157 := by decide) : Bk w' A t cs := hA.kept q (h.box hA ht1 ht2 ht3)
theorem PSt.box {A : Nat} {cs : Array Value} (h : PSt w0 w b s k P) (hA : Bk w A 25 cs) (q : Kept (PFoot b s k) w w') : Bk w' A 25 cs := hA.kept q (h.f.box hA (by decide) (by decide) (by decide))
/-- A slice that owns its row. -/
def RowO (w : World) (v : Value) (l : List Ro) : Prop := ∃ base, w.ownsRow base 25 3 v l.length (ocls l)
theorem RowO.rd {v : Value} {l : List Ro} (h : RowO w v l) : RdO w v l := by obtain ⟨_, h⟩ := h; exact RdO.of_own h
theorem RowO.below {v : Value} {l : List Ro} (h : RowO w v l) (q : Below w.heap.size w w') : RowO w' v l := by obtain ⟨_, h⟩ := h; exact ⟨_, own_below h q⟩
theorem RowO.kept {v : Value} {l : List Ro} (h : RowO w v l) (f : PW w b s k P) (q : Kept (PFoot b s k) w w') : RowO w' v l := by
  obtain ⟨base, h⟩ := h
  refine ⟨base, own_same h fun g hg => ?_⟩
  rcases h.2 with ⟨rfl, _⟩ | ⟨g', cap, cur, rfl, _, h2, _⟩
  · cases hg
  · obtain rfl : g' = g := by simpa [Value.ownBlock] using hg
    have hb : Bk w g' 25 cur := h2
    exact q.block g' hb.lt (f.box hb (by decide) (by decide) (by decide))
theorem kept_sk (q : Kept (fun g => g = s ∨ g = k) w w') : Kept (PFoot b s k) w w' := q.mono fun _ _ e => by rcases e with e | e; exact .inr (.inl e); exact .inr (.inr e)
theorem kept_k (q : Kept (· = k) w w') : Kept (PFoot b s k) w w' := q.mono fun _ _ e => .inr (.inr e)
/-- The calls, told of the state. -/
theorem pin_s (x K I G E : Int) (h : PSt w0 w b s k P) (e1 : (P.pK x : Int) = K) (e2 : (P.pI x : Int) = I) (e3 : (P.pG x : Int) = G) (e4 : P.can x = E) : Calls Tryz.prog 203 #[.pointer (some ⟨b, 0, none⟩), .int .i64 x] w fun e w' =>
    e = .returned (.tuple #[.agg #[.int .i64 K, .int .i64 I, .int .u32 G], .int .i64 E]) ∧ Hid (PSt w0 w' b s k (P.pin x)) ∧ Hid (Kept (PFoot b s k) w w') := by
  refine (ppin_any b s k P x w h.f).mono ?_
  rintro e w' ⟨rfl, h1, h2⟩
  exact ⟨by rw [e1, e2, e3, e4], h.step (kept_sk h2) h1, kept_sk h2⟩
theorem unpin_s (x y z E : Int) (h : PSt w0 w b s k P) (e : P.chk x y z = E) : Calls Tryz.prog 204 #[.pointer (some ⟨b, 0, none⟩), .agg #[.int .i64 x, .int .i64 y, .int .u32 z]] w fun e w' =>
    e = .returned (.int .i64 E) ∧ Hid (PSt w0 w' b s k (P.unpin x y z)) ∧ Hid (Kept (PFoot b s k) w w') := by
  refine (punpin_any b s k P x y z w h.f).mono ?_
  rintro e w' ⟨rfl, h1, h2⟩
  exact ⟨by rw [e], h.step (kept_k h2) h1, kept_k h2⟩
theorem used_s (N : Nat) (h : PSt w0 w b s k P) (e1 : P.used = N) : Calls Tryz.prog 206 #[.pointer (some ⟨b, 0, none⟩)] w fun e w' =>
    e = .returned (.int .i64 N) ∧ Hid (PSt w0 w' b s k P) ∧ Hid (Below w.heap.size w w') := by
  refine (pused_ok b s k P w h.f).mono ?_
  rintro e w' ⟨rfl, h1⟩
  exact ⟨by rw [e1], h.quiet h1, h1⟩
theorem all_s (l : List Ro) (h : PSt w0 w b s k P) (e : P.all = l) : Calls Tryz.prog 173 #[.pointer (some ⟨b, 0, none⟩)] w fun e w' =>
    ∃ p c, e = .returned (.slice p l.length c) ∧ Hid (RowO w' (.slice p l.length c) l) ∧ Hid (PSt w0 w' b s k P) ∧ Hid (Below w.heap.size w w') := by
  refine (pall_ok b s k P w h.f).mono ?_
  rintro e' w' ⟨p, c, rfl, h1, h2⟩
  subst e
  exact ⟨p, c, rfl, ⟨_, h1⟩, h.quiet h2, h2⟩
end
theorem ob_cells {w : World} {A : Nat} {x y z : Value} (h : Bk w A 25 #[x, y, z]) : w.cell? ⟨A, 0, none⟩ = some x ∧ w.cell? ⟨A, 1, none⟩ = some y ∧ w.cell? ⟨A, 2, none⟩ = some z ∧ A < w.heap.size := ⟨h.cell 0, h.cell 1, h.cell 2, h.lt⟩
end Go.Proofs.YtpinmiplefidpaaGreatDoor.BF
