/- The layer F, joined. -/
import Derived.Test.YtpinmiplefidpaaGreatDoorMS
import Derived.Laws.AppendOwn
import Derived.Laws.AppendOwnNone
import Derived.Maps.OwnSet
import Derived.Maps.OwnRows
import Derived.DeepKeys4
import Derived.Carry
import Derived.RegionTactic
import Derived.BigQuiet
import Derived.Deep.RegionHeld3
import Derived.Shelf.RegionOpen
import Derived.Laws.ResultCell
import Derived.Shelf.SlMaps.Clone
import Derived.Test.YtpinmiplefidpaaGreatDoorProg
namespace Go.Proofs.YtpinmiplefidpaaGreatDoor.FD

/-- A table of files: the table of its ids, and the number with which each was opened (0 where it is not open). -/
structure Fb where
  t : Tb
  num : Nat → Nat
structure Fb.Ok (F : Fb) : Prop where
  t : F.t.Ok
  hi : F.t.n ≤ 64
  num : ∀ i, F.num i ≤ 65535
/-- A resource that is possible, and is a file. -/
def IsFile (k i g : Int) : Prop := k = 1 ∧ 0 ≤ i ∧ i < 64 ∧ g ≠ 0
instance (k i g : Int) : Decidable (IsFile k i g) := inferInstanceAs (Decidable (_ ∧ _))
/-- What is said of a resource. -/
def Fb.chk (F : Fb) (k i g : Int) : Int := if IsFile k i g then F.t.chk i g else 2
def Fb.look (F : Fb) (k i g : Int) : Option Int := if F.chk k i g = 0 then some (F.num i.toNat) else none
def Fb.number (F : Fb) (k i g : Int) : Int := (F.look k i g).getD 0
def Fb.opened (F : Fb) (i x : Nat) : Fb := ⟨F.t.took i, put F.num i x⟩
def Fb.close (F : Fb) (i : Nat) : Fb := ⟨F.t.gave i, put F.num i 0⟩
def Fb.closed (F : Fb) (k i g : Int) : Fb := if F.chk k i g = 0 then F.close i.toNat else F
def Fb.opn (F : Fb) (x : Nat) : Fb := match F.t.free with | [] => F | i :: _ => F.opened i x
def ffresh (n g : Nat) : Fb := ⟨fresh n g, fun _ => 0⟩
/-- What Open answers. -/
def Fb.oK (F : Fb) : Nat := match F.t.free with | [] => 0 | _ :: _ => 1
def Fb.oI (F : Fb) : Nat := match F.t.free with | [] => 0 | i :: _ => i
def Fb.oG (F : Fb) : Nat := match F.t.free with | [] => 0 | i :: _ => F.t.g i
def Fb.oE (F : Fb) : Int := match F.t.free with | [] => 4 | _ :: _ => 0

theorem ffresh_ok {n g : Nat} (h1 : 1 ≤ n) (h2 : n ≤ 64) (h3 : 1 ≤ g) (h4 : g ≤ 4294967295) : (ffresh n g).Ok := ⟨fresh_ok h1 (by omega) h3 h4, h2, fun _ => Nat.zero_le _⟩
theorem Fb.Ok.opened {F : Fb} (h : F.Ok) (i : Nat) {x : Nat} (hx : x ≤ 65535) : (F.opened i x).Ok :=
  ⟨h.t.took i, h.hi, fun k => by have := h.num k; simp only [Fb.opened, put]; split <;> omega⟩
theorem Fb.Ok.close {F : Fb} (h : F.Ok) (i : Nat) : (F.close i).Ok :=
  ⟨h.t.gave i, by simp only [Fb.close, Tb.gave_n]; exact h.hi, fun k => by have := h.num k; simp only [Fb.close, put]; split <;> omega⟩
theorem Fb.Ok.closed {F : Fb} (h : F.Ok) (k i g : Int) : (F.closed k i g).Ok := by unfold Fb.closed; split; exact h.close _; exact h
theorem Fb.Ok.opn {F : Fb} (h : F.Ok) {x : Nat} (hx : x ≤ 65535) : (F.opn x).Ok := by unfold Fb.opn; split; exact h; exact h.opened _ hx
theorem Fb.opened_n (F : Fb) (i x : Nat) : (F.opened i x).t.n = F.t.n := rfl
theorem Fb.close_n (F : Fb) (i : Nat) : (F.close i).t.n = F.t.n := F.t.gave_n i
theorem Fb.closed_n (F : Fb) (k i g : Int) : (F.closed k i g).t.n = F.t.n := by unfold Fb.closed; split; exact F.close_n _; rfl
theorem Fb.opn_n (F : Fb) (x : Nat) : (F.opn x).t.n = F.t.n := by unfold Fb.opn; split <;> rfl

theorem Fb.chk_zero {F : Fb} {k i g : Int} (h : F.chk k i g = 0) : IsFile k i g ∧ F.t.chk i g = 0 := by
  unfold Fb.chk at h
  split at h
  · rename_i h1; exact ⟨h1, h⟩
  · omega
/-- An open file: its id, as a natural number. -/
theorem Fb.chk_open {F : Fb} {k i g : Int} (h : F.chk k i g = 0) : k = 1 ∧ ∃ j : Nat, i = j ∧ j < F.t.n ∧ F.t.s j = 1 ∧ (F.t.g j : Int) = g := by
  obtain ⟨⟨h1, _⟩, h2⟩ := Fb.chk_zero h
  obtain ⟨h3, h4, h5, h6⟩ := Tb.chk_zero h2
  exact ⟨h1, i.toNat, by omega, by omega, h5, h6⟩
theorem Fb.Ok.chk_held {F : Fb} (h : F.Ok) {i : Nat} (h1 : i < F.t.n) (h2 : F.t.s i = 1) : F.chk 1 i (F.t.g i) = 0 := by
  have := h.hi
  have := h.t.g1 i h1
  unfold Fb.chk
  rw [if_pos ⟨rfl, by omega, by omega, by omega⟩, Tb.chk_held h1 h2]
theorem Fb.chk_cases (F : Fb) (k i g : Int) : (¬ IsFile k i g ∧ F.chk k i g = 2) ∨ (IsFile k i g ∧ F.chk k i g = F.t.chk i g) := by
  unfold Fb.chk
  by_cases h : IsFile k i g
  · exact .inr ⟨h, if_pos h⟩
  · exact .inl ⟨h, if_neg h⟩
theorem Fb.look_open {F : Fb} {k i g : Int} (h : F.chk k i g = 0) : F.look k i g = some (F.num i.toNat) := if_pos h
theorem Fb.look_none {F : Fb} {k i g : Int} (h : F.chk k i g ≠ 0) : F.look k i g = none := if_neg h

theorem gave_g_other {T : Tb} {i j : Nat} (h : j ≠ i) : (T.gave i).g j = T.g j := by
  unfold Tb.gave; split
  · rfl
  · exact put_other h
theorem gave_s_other {T : Tb} {i j : Nat} (h : j ≠ i) : (T.gave i).s j = T.s j := by
  unfold Tb.gave; split <;> exact put_other h
theorem gave_s_ne (T : Tb) (i : Nat) : (T.gave i).s i ≠ 1 := by
  unfold Tb.gave; split <;> simp [put_same]
/-- What opening makes of what is said. -/
theorem Fb.look_opened {F : Fb} (hF : F.Ok) {i x : Nat} (hi : i < F.t.n) (hs : F.t.s i = 0) (k' i' g' : Int) :
    (F.opened i x).look k' i' g' = if k' = 1 ∧ i' = i ∧ g' = F.t.g i then some (x : Int) else F.look k' i' g' := by
  have hh := hF.hi
  have hg := hF.t.g1 i hi
  by_cases e : k' = 1 ∧ i' = i ∧ g' = F.t.g i
  · obtain ⟨rfl, rfl, rfl⟩ := e
    rw [if_pos ⟨rfl, rfl, rfl⟩]
    have hc : (F.opened i x).chk 1 i (F.t.g i) = 0 := by
      unfold Fb.chk
      rw [if_pos ⟨rfl, by omega, by omega, by omega⟩]
      exact Tb.chk_held (T := F.t.took i) hi (by simp [Tb.took, put_same])
    rw [Fb.look_open hc]
    simp [Fb.opened, put_same]
  · rw [if_neg e]
    have hiff : (F.opened i x).chk k' i' g' = 0 ↔ F.chk k' i' g' = 0 := by
      constructor
      · intro h
        obtain ⟨rfl, j, rfl, h1, h2, h3⟩ := Fb.chk_open h
        have hne : j ≠ i := by rintro rfl; exact e ⟨rfl, rfl, h3.symm⟩
        have h2' : F.t.s j = 1 := by rw [← h2]; exact (put_other hne).symm
        rw [← h3]
        exact hF.chk_held h1 h2'
      · intro h
        obtain ⟨rfl, j, rfl, h1, h2, h3⟩ := Fb.chk_open h
        have hne : j ≠ i := by rintro rfl; omega
        rw [← h3]
        have h1' := hF.t.g1 j h1
        unfold Fb.chk
        rw [if_pos ⟨rfl, by omega, by omega, by omega⟩]
        exact Tb.chk_held (T := F.t.took i) h1 (by simp only [Tb.took]; rw [put_other hne]; exact h2)
    by_cases hc : F.chk k' i' g' = 0
    · rw [Fb.look_open hc, Fb.look_open (hiff.2 hc)]
      obtain ⟨rfl, j, rfl, h1, h2, h3⟩ := Fb.chk_open hc
      have hne : j ≠ i := by rintro rfl; omega
      simp [Fb.opened, put_other hne]
    · rw [Fb.look_none hc, Fb.look_none (fun h => hc (hiff.1 h))]
/-- What closing makes of what is said. -/
theorem Fb.look_close {F : Fb} (hF : F.Ok) {i : Nat} (hi : i < F.t.n) (hs : F.t.s i = 1) (k' i' g' : Int) :
    (F.close i).look k' i' g' = if k' = 1 ∧ i' = i ∧ g' = F.t.g i then none else F.look k' i' g' := by
  have hh := hF.hi
  have hiff : (F.close i).chk k' i' g' = 0 ↔ F.chk k' i' g' = 0 ∧ i' ≠ i := by
    constructor
    · intro h
      obtain ⟨rfl, j, rfl, h1, h2, h3⟩ := Fb.chk_open h
      have hne : j ≠ i := by rintro rfl; exact gave_s_ne _ _ h2
      simp only [Fb.close, gave_s_other hne, gave_g_other hne, Tb.gave_n] at h1 h2 h3
      rw [← h3]
      exact ⟨hF.chk_held h1 h2, by omega⟩
    · rintro ⟨h, hne'⟩
      obtain ⟨rfl, j, rfl, h1, h2, h3⟩ := Fb.chk_open h
      have hne : j ≠ i := by omega
      have h1' := hF.t.g1 j h1
      rw [← h3]
      unfold Fb.chk
      rw [if_pos ⟨rfl, by omega, by omega, by omega⟩]
      have := Tb.chk_held (T := F.t.gave i) (i := j) (by rw [Tb.gave_n]; exact h1) (by rw [gave_s_other hne]; exact h2)
      rw [gave_g_other hne] at this
      exact this
  by_cases e : k' = 1 ∧ i' = i ∧ g' = F.t.g i
  · rw [if_pos e, Fb.look_none (fun h => (hiff.1 h).2 e.2.1)]
  · rw [if_neg e]
    by_cases hc : F.chk k' i' g' = 0
    · obtain ⟨hk, j, hj, h1, h2, h3⟩ := Fb.chk_open hc
      have hne : j ≠ i := by
        rintro rfl
        exact e ⟨hk, hj, h3.symm⟩
      rw [Fb.look_open hc, Fb.look_open (hiff.2 ⟨hc, by omega⟩), hj]
      simp [Fb.close, put_other hne]
    · rw [Fb.look_none hc, Fb.look_none (fun h => hc (hiff.1 h).1)]

/-- How many are open behind opening and closing. -/
theorem held_opened {F : Fb} {i x : Nat} (hi : i < F.t.n) (hs : F.t.s i = 0) : (F.opened i x).t.held.length = F.t.held.length + 1 := by
  have := sel_put_len (f := F.t.s) (v := 1) (u := 1) hi
  rw [if_neg (by omega), if_pos rfl] at this
  exact this
theorem held_close {F : Fb} {i : Nat} (hi : i < F.t.n) (hs : F.t.s i = 1) : (F.close i).t.held.length = F.t.held.length - 1 := by
  have h0 : ∀ u, u ≠ 1 → (sel (put F.t.s i u) 1 F.t.n).length = (sel F.t.s 1 F.t.n).length - 1 := by
    intro u hu
    have := sel_put_len (f := F.t.s) (v := 1) (u := u) hi
    rw [if_pos hs, if_neg hu] at this
    omega
  unfold Fb.close Tb.gave Tb.held
  split
  · exact h0 2 (by omega)
  · exact h0 0 (by omega)
theorem Fb.Ok.held_len {F : Fb} (h : F.Ok) : F.t.held.length ≤ 64 := by have := sel_len F.t.s 1 F.t.n; have := h.hi; unfold Tb.held; omega
end Go.Proofs.YtpinmiplefidpaaGreatDoor.FD

namespace Go.Proofs.YtpinmiplefidpaaGreatDoor.FD
open Go.RowKit


/-! ### resources in cells -/
/-- A list of files: what All returns. -/
def fro (r : Nat × Nat) : Ro := ⟨1, r.1, r.2⟩
def Fb.all (F : Fb) : List Ro := F.t.now.map fro
theorem Fb.all_len (F : Fb) : F.all.length = F.t.held.length := by simp [Fb.all, Tb.now_len]

/-! ### slices of resources -/
section
variable {w w' : World} {v : Value} {l : List Ro}
end

/-! ### a map by resources -/
/-- What a map holds of each resource. -/
abbrev Lk := Int → Int → Int → Option Int
def upd (T : Lk) (k i g : Int) (t : Option Int) : Lk := fun k' i' g' => if k' = k ∧ i' = i ∧ g' = g then t else T k' i' g'
theorem upd_same (T : Lk) (k i g : Int) (t : Option Int) : upd T k i g t k i g = t := if_pos ⟨rfl, rfl, rfl⟩
theorem upd_other {T : Lk} {k i g k' i' g' : Int} (t : Option Int) (h : ¬ (k' = k ∧ i' = i ∧ g' = g)) : upd T k i g t k' i' g' = T k' i' g' := if_neg h
def MapOf (D : DataW Unit) (T : Lk) : Prop := ∀ k i g kl, RgO k i g → keyOf Tryz.prog 25 (okey k i g) = some kl → D.atKey kl (.lit (.int .i64 0)) = .lit (.int .i64 ((T k i g).getD 0)) ∧ Maps.has D kl = (T k i g).isSome
/-- Block m is a map of n numbers that gives T. -/
def MapW (w : World) (m n : Nat) (T : Lk) : Prop := ∃ D : DataW Unit, w.ownsMap Tryz.prog 25 (plainElem Tryz.prog 3) m n D ∧ Maps.size D = n ∧ MapOf D T
section
variable {w w' : World} {m n : Nat} {T U : Lk}
theorem MapW.lt (h : MapW w m n T) : m < w.heap.size := by obtain ⟨D, h, _⟩ := h; exact h.lt
theorem MapW.same (h : MapW w m n T) (e : w'.heap[m]? = w.heap[m]?) : MapW w' m n T := by
  obtain ⟨D, ⟨es, clock, hb, r⟩, h2⟩ := h
  exact ⟨D, ⟨es, clock, e.trans hb, r⟩, h2⟩
theorem MapW.congr (h : MapW w m n T) (e : ∀ k i g, RgO k i g → T k i g = U k i g) : MapW w m n U := by
  obtain ⟨D, h1, h2, h3⟩ := h
  exact ⟨D, h1, h2, fun k i g kl hr hk => by rw [← e k i g hr]; exact h3 k i g kl hr hk⟩
theorem MapW.new (w : World) : MapW (w.alloc (.map #[] 0)) w.heap.size 0 (fun _ _ _ => none) := ⟨.map [], World.ownsMap_made w _ _ _, rfl, fun _ _ _ _ _ _ => ⟨rfl, rfl⟩⟩
theorem MapW.no_cells (h : MapW w m n T) {t : TypeId} {cs : Array Value} (hb : Bk w m t cs) : False := by
  obtain ⟨D, ⟨es, clock, hm, _⟩, _⟩ := h
  unfold Bk at hb
  rw [hm] at hb
  cases hb
theorem lit_eq {c y : Int} (e : (DataW.lit (.int .i64 c) : DataW Unit) = .lit (.int .i64 y)) : c = y := by
  injection e with e
  injection e
theorem MapW.look (h : MapW w m n T) {k i g : Int} (hr : RgO k i g) : (Instr.lookup 151 (.map (some m)) (okey k i g) false).run Tryz.prog w = .ok (.int .i64 ((T k i g).getD 0)) w := by
  obtain ⟨D, h1, _, h3⟩ := h
  obtain ⟨kl, hkl⟩ := okey_lit hr
  obtain ⟨c, hrun, hc, _⟩ := h1.lookup_int keyedO Tryz.underlying151 Tryz.underlying3 (zeroI w) hkl
  have e := (h3 k i g kl hr hkl).1
  rw [hc] at e
  have e2 : c = (T k i g).getD 0 := by
    exact lit_eq e
  rw [hrun, e2]
theorem MapW.len (h : MapW w m n T) (ty : TypeId) : (Builtin.len_ #[151] ty #[.map (some m)]).run Tryz.prog w = .ok (.int .i64 n) w := by
  obtain ⟨D, h1, h2, _⟩ := h
  rw [h1.len Tryz.underlying151 ty, h2]
theorem tight {D : DataW Unit} {n : Nat} (h : w.ownsMap Tryz.prog 25 (plainElem Tryz.prog 3) m n D) : w.ownsMap Tryz.prog 25 (plainElem Tryz.prog 3) m (Maps.size D) D := by
  obtain ⟨es, clock, hb, F, hs, hD⟩ := h
  refine ⟨es, clock, hb, F, ?_, hD⟩
  rw [hD]
  simp [Maps.size, length_sorted]
theorem turned_kept {b : Nat} (h : w.mapTurned w' b) : Kept (· = b) w w' := by
  have g := h.grown
  exact ⟨g.os, g.tape, g.output, g.size, fun k hk hs => g.block k hk fun e => hs (Option.some.inj e)⟩
theorem MapW.store (h : MapW w m n T) {k i g t : Int} (hr : RgO k i g) (ht : I64 t) (h0 : T k i g = none) (hn : n < maxLen) : ∃ w', (Instr.mapUpdate 151 (.map (some m)) (okey k i g) (.int .i64 t)).run Tryz.prog w = .ok () w' ∧ MapW w' m (n + 1) (upd T k i g (some t)) ∧ Kept (· = m) w w' := by
  obtain ⟨D, h1, h2, h3⟩ := h
  have ti := h1.tidy keyedO
  obtain ⟨kl, hkl⟩ := okey_lit hr
  have kk : WideAt.IsKeyLit kl := keyedO.key hkl
  obtain ⟨w', hrun, ho, hk⟩ := h1.store keyedO Tryz.underlying151 hn hkl (plainElem_int (H := Unit) (P := Tryz.prog) Tryz.underlying3 (WalkArith.wf_i64 (n := t) ⟨ht.1, by have := ht.2; omega⟩))
  have hs : Maps.size (D.put kl (.lit (.int .i64 t))) = n + 1 := by
    rw [Maps.size_put ti, (h3 k i g kl hr hkl).2, h0, h2]; rfl
  refine ⟨w', hrun, ⟨_, ho, hs, fun k' i' g' kl' hr' hkl' => ?_⟩, turned_kept hk⟩
  by_cases e : k' = k ∧ i' = i ∧ g' = g
  · obtain ⟨rfl, rfl, rfl⟩ := e
    rw [hkl] at hkl'
    obtain rfl := Option.some.inj hkl'
    rw [upd_same, Maps.atKey_put_same ti.isMap kk, Maps.has_put_same ti.isMap kk]
    exact ⟨rfl, rfl⟩
  · have hne : kl' ≠ kl := by
      rintro rfl
      exact e (okey_inj (lawO.inj hkl' hkl))
    rw [upd_other _ e, Maps.atKey_put_other hne, Maps.has_put_other hne]
    exact h3 k' i' g' kl' hr' hkl'
theorem MapW.drop (h : MapW w m n T) {k i g : Int} (hr : RgO k i g) (h0 : (T k i g).isSome = true) (ty : TypeId) : ∃ w', (Builtin.delete_ #[151, 25] ty #[.map (some m), okey k i g]).run Tryz.prog w = .ok (.tuple #[]) w' ∧ MapW w' m (n - 1) (upd T k i g none) ∧ Kept (· = m) w w' := by
  obtain ⟨D, h1, h2, h3⟩ := h
  have ti := h1.tidy keyedO
  obtain ⟨kl, hkl⟩ := okey_lit hr
  obtain ⟨w', hrun, ho, hk⟩ := h1.drop keyedO Tryz.underlying151 hkl ty
  have hs : Maps.size (D.del kl) = n - 1 := by
    have := Maps.size_del (k := kl) ti
    rw [(h3 k i g kl hr hkl).2, h0, h2] at this
    simp at this; omega
  refine ⟨w', hrun, ⟨_, hs ▸ tight ho, hs, fun k' i' g' kl' hr' hkl' => ?_⟩, turned_kept hk⟩
  by_cases e : k' = k ∧ i' = i ∧ g' = g
  · obtain ⟨rfl, rfl, rfl⟩ := e
    rw [hkl] at hkl'
    obtain rfl := Option.some.inj hkl'
    rw [upd_same, Maps.atKey_del_same, Maps.has_del_same]
    exact ⟨rfl, rfl⟩
  · have hne : kl' ≠ kl := by
      rintro rfl
      exact e (okey_inj (lawO.inj hkl' hkl))
    rw [upd_other _ e, Maps.atKey_del_other hne, Maps.has_del_other hne]
    exact h3 k' i' g' kl' hr' hkl'
end

/-! ### a table of files of the program's -/
structure FW (w : World) (b k m : Nat) (F : Fb) : Prop where
  ok : F.Ok
  hb : Bk w b 153 #[.pointer (some ⟨k, 0, none⟩), .map (some m)]
  tab : TabW w k F.t
  map : MapW w m F.t.held.length F.look
def FFoot (b k m : Nat) (g : Nat) : Prop := g = b ∨ g = k ∨ g = m
section
variable {w w' : World} {b k m : Nat} {F : Fb}
theorem FW.foot_lt (h : FW w b k m F) {g : Nat} (hg : FFoot b k m g) : g < w.heap.size := by
  rcases hg with rfl | rfl | rfl
  · exact h.hb.lt
  · exact h.tab.bt
  · exact h.map.lt
theorem FW.same (h : FW w b k m F) (e : ∀ g, FFoot b k m g → w'.heap[g]? = w.heap[g]?) : FW w' b k m F := ⟨h.ok, h.hb.same (e b (.inl rfl)), h.tab.same (e k (.inr (.inl rfl))), h.map.same (e m (.inr (.inr rfl)))⟩
theorem FW.kept {S : Nat → Prop} (h : FW w b k m F) (q : Kept S w w') (hs : ∀ g, FFoot b k m g → ¬ S g) : FW w' b k m F := h.same fun g hg => q.block g (h.foot_lt hg) (hs g hg)
theorem FW.below (h : FW w b k m F) (q : Below w.heap.size w w') : FW w' b k m F := h.same fun g hg => q.block g (h.foot_lt hg)
theorem FW.bk (h : FW w b k m F) : b ≠ k := by rintro rfl; exact absurd (h.hb.uniq h.tab.bk).1 (by decide)
theorem FW.bm (h : FW w b k m F) : b ≠ m := by rintro rfl; exact h.map.no_cells h.hb
theorem FW.km (h : FW w b k m F) : k ≠ m := by rintro rfl; exact h.map.no_cells h.tab.bk
theorem FW.c0 (h : FW w b k m F) : w.cell? ⟨b, 0, none⟩ = some (.pointer (some ⟨k, 0, none⟩)) := h.hb.cell 0
theorem FW.c1 (h : FW w b k m F) : w.cell? ⟨b, 1, none⟩ = some (.map (some m)) := h.hb.cell 1
end
/-- A table that New or Copy did not make: nil, or the zero one. -/
def FInv (w : World) (v : Option Addr) : Prop := v = none ∨ ∃ b, v = some ⟨b, 0, none⟩ ∧ Bk w b 153 #[.pointer none, .map none]
theorem FInv.below {w w' : World} {v : Option Addr} (h : FInv w v) (hb : Below w.heap.size w w') : FInv w' v := by
  rcases h with rfl | ⟨b, rfl, h⟩
  · exact .inl rfl
  · exact .inr ⟨b, rfl, h.below hb⟩
end Go.Proofs.YtpinmiplefidpaaGreatDoor.FD

namespace Go.Proofs.YtpinmiplefidpaaGreatDoor.FD
open Go.RowKit







end Go.Proofs.YtpinmiplefidpaaGreatDoor.FD

namespace Go.Proofs.YtpinmiplefidpaaGreatDoor.FD
open Go.RowKit

/-! ### valid -/
set_option maxRecDepth 100000 in
theorem fvalid_no (p : Option Addr) (w : World) (h : FInv w p) : Calls Tryz.prog 168 #[.pointer p] w fun e w' => e = .returned (.bool false) ∧ w = w' := by
  rcases h with rfl | ⟨b, rfl, h⟩
  · go_enter Tryz.func168, Tryz.ntmps168
    go_wp2
    go_ret
    exact ⟨rfl, rfl⟩
  · have hc : w.cell? ⟨b, 0, none⟩ = some (.pointer none) := h.cell 0
    clear h
    go_enter Tryz.func168, Tryz.ntmps168
    go_wp2
    go_ret
    exact ⟨rfl, rfl⟩
set_option maxRecDepth 100000 in
theorem fvalid_yes (b k : Nat) (w : World) (hc : w.cell? ⟨b, 0, none⟩ = some (.pointer (some ⟨k, 0, none⟩))) : Calls Tryz.prog 168 #[.pointer (some ⟨b, 0, none⟩)] w fun e w' => e = .returned (.bool true) ∧ w = w' := by
  go_enter Tryz.func168, Tryz.ntmps168
  go_wp2
  go_ret
  exact ⟨rfl, rfl⟩

/-! ### file -/
set_option maxRecDepth 100000 in
theorem file_ok (i g : Int) (w : World) (_g0 : 0 ≤ g) (_g1 : g ≤ 4294967295) (_i0 : 0 ≤ i) (_i1 : i ≤ 256) :
    Calls Tryz.prog 170 #[.agg #[.int .i64 i, .int .u32 g]] w fun e w' => e = .returned (.agg #[.int .i64 1, .int .i64 i, .int .u32 g]) ∧ Below w.heap.size w w' := by
  go_enter Tryz.func170, Tryz.ntmps170
  go_wp2
  refine bodyPost_ret (v := .agg #[.int .i64 1, .int .i64 i, .int .u32 g]) (by simp [results, Tryz.results170, go_sem]) rfl ⟨rfl, ?_⟩
  exact ((Below.refl _ _).alloc (Nat.le_refl _) _).alloc (by simp) _

/-! ### New -/
/-- A new table. -/
def FNew (F : Fb) (w : World) (b : Nat) (w' : World) : Prop := ∃ k m, FW w' b k m F ∧ (∀ g, FFoot b k m g → w.heap.size ≤ g) ∧ Below w.heap.size w w'
theorem fresh_held (n g : Nat) : (fresh n g).held = [] := by simp [Tb.held, fresh, sel]
theorem ffresh_look (n g : Nat) (k i y : Int) : (ffresh n g).look k i y = none := Fb.look_none fun h => by
  obtain ⟨_, j, _, _, h2, _⟩ := Fb.chk_open h
  simp [ffresh, fresh] at h2
theorem fnew_fin {w W : World} {n g : Nat} (h1 : 1 ≤ n) (h2 : n ≤ 64) (h3 : 1 ≤ g) (h4 : g ≤ 4294967295) (hB : Below w.heap.size w W) (hT : TabW W w.heap.size (fresh n g)) :
    FNew (ffresh n g) w (W.heap.size + 1) ((W.alloc (.map #[] 0)).alloc (.cells #[.pointer (some ⟨w.heap.size, 0, none⟩), .map (some W.heap.size)] 153)) := by
  have b2 := Bk.new (W.alloc (.map #[] 0)) 153 #[.pointer (some ⟨w.heap.size, 0, none⟩), .map (some W.heap.size)]
  rw [World.size_alloc] at b2
  have hs := hB.size
  have hb2 : Below W.heap.size W ((W.alloc (.map #[] 0)).alloc (.cells #[.pointer (some ⟨w.heap.size, 0, none⟩), .map (some W.heap.size)] 153)) := ((Below.refl _ _).alloc (Nat.le_refl _) _).alloc (by simp) _
  refine ⟨w.heap.size, W.heap.size, ⟨ffresh_ok h1 h2 h3 h4, b2, hT.below hb2, ?_⟩, ?_, hB.trans (hb2.mono hs)⟩
  · have m0 := MapW.new W
    have m1 := m0.same (Below.heap_alloc _ (.cells #[.pointer (some ⟨w.heap.size, 0, none⟩), .map (some W.heap.size)] 153) _ m0.lt)
    have e : (ffresh n g).t.held.length = 0 := by show (fresh n g).held.length = 0; rw [fresh_held]; rfl
    rw [e]
    exact m1.congr fun _ _ _ _ => (ffresh_look _ _ _ _ _).symm
  · rintro x (rfl | rfl | rfl)
    · omega
    · exact Nat.le_refl _
    · exact hs
set_option maxRecDepth 100000 in
theorem fnew_ok (n g : Nat) (w : World) (h1 : 1 ≤ n) (h2 : n ≤ 64) (h3 : 1 ≤ g) (h4 : g ≤ 4294967295) :
    Calls Tryz.prog 51 #[.int .i64 n, .int .u32 g] w fun e w' => ∃ b, e = .returned (.tuple #[.pointer (some ⟨b, 0, none⟩), .int .i64 0]) ∧ FNew (ffresh n g) w b w' := by
  have hmm := @run_makeMap Tryz.prog
  have NW := Lib.hid (new_ok n g w h1 (by omega) h3 h4)
  go_enter Tryz.func51, Tryz.ntmps51
  go_wp2_with (go_at_call 104; refine NW.out.mono ?_; rintro e w1 ⟨rfl, hT, hB⟩; have HF := Lib.hid (fnew_fin h1 h2 h3 h4 hB hT); clear hT hB)
  go_ret2
  exact ⟨_, rfl, HF.out⟩
/-- New where the arguments are not possible. -/
def FBad (n g : Int) : Prop := n < 1 ∨ 64 < n ∨ g = 0
set_option maxRecDepth 100000 in
theorem fnew_bad (n g : Int) (w : World) (hn : I64 n) (hg : 0 ≤ g ∧ g ≤ 4294967295) (h : FBad n g) :
    Calls Tryz.prog 51 #[.int .i64 n, .int .u32 g] w fun e w' => e = .returned (.tuple #[.pointer none, .int .i64 2]) ∧ w = w' := by
  obtain ⟨n0, n1⟩ := hn
  obtain ⟨g0, g1⟩ := hg
  by_cases c : 64 < n
  · go_enter Tryz.func51, Tryz.ntmps51
    go_wp2
    go_ret2
    exact ⟨rfl, rfl⟩
  · have NW : Hid (Calls Tryz.prog 104 #[.int .i64 n, .int .u32 g] w fun e w' => e = .returned (.tuple #[.pointer none, .int .i64 2]) ∧ w = w') := by
      by_cases c1 : n < 1
      · exact new_arg1 n g w (.inl c1)
      · obtain rfl : g = 0 := by unfold FBad at h; omega
        exact new_arg2 n w (by omega) (by omega)
    go_enter Tryz.func51, Tryz.ntmps51
    go_wp2_with (go_at_call 104; refine NW.out.mono ?_; rintro e w1 ⟨rfl, rfl⟩)
    go_ret2
    exact ⟨rfl, rfl⟩

/-! ### Len -/
end Go.Proofs.YtpinmiplefidpaaGreatDoor.FD

namespace Go.Proofs.YtpinmiplefidpaaGreatDoor.FD
open Go.RowKit

theorem IsFile.okn {k i g : Int} (h : IsFile k i g) (hr : RgO k i g) : k = 1 ∧ ∃ i' g' : Nat, i = i' ∧ g = g' ∧ Okn 64 1 i' g' := by
  obtain ⟨h1, h2, h3, h4⟩ := h
  have := hr.g0
  have := hr.g1
  exact ⟨h1, i.toNat, g.toNat, by omega, by omega, ⟨by omega, by omega, by omega, by omega, by omega⟩⟩
theorem not_file {k i g : Int} (h : ¬ IsFile k i g) (hr : RgO k i g) : Bad 64 k i g ∨ (k ≠ 1 ∧ ∃ k' i' g' : Nat, k = k' ∧ i = i' ∧ g = g' ∧ Okn 64 k' i' g') := by
  rcases ok_or (n := 64) hr with ⟨k', i', g', rfl, rfl, rfl, ho⟩ | hb
  · refine .inr ⟨fun e => h ⟨e, ?_, ?_, ?_⟩, k', i', g', rfl, rfl, rfl, ho⟩ <;> (have := ho.2.2.1; have := ho.2.2.2.1; omega)
  · exact .inl hb

theorem box_o {w w2 : World} {x y z : Int} (hb : Below (w.alloc (.cells #[.int .i64 x, .int .i64 y, .int .u32 z] 25)).heap.size (w.alloc (.cells #[.int .i64 x, .int .i64 y, .int .u32 z] 25)) w2) :
    w2.cell? ⟨w.heap.size, 0, none⟩ = some (.int .i64 x) ∧ w2.cell? ⟨w.heap.size, 1, none⟩ = some (.int .i64 y) ∧ w2.cell? ⟨w.heap.size, 2, none⟩ = some (.int .u32 z) ∧ w.heap.size < w2.heap.size := by
  have h := (Bk.new w 25 #[.int .i64 x, .int .i64 y, .int .u32 z]).below hb
  exact ⟨h.cell 0, h.cell 1, h.cell 2, h.lt⟩
/-! ### found -/
set_option maxHeartbeats 1000000 in
set_option maxRecDepth 100000 in
theorem found_inv (p : Option Addr) (x y z : Int) (fv : Value) (w : World) (h : FInv w p) : Calls Tryz.prog 189 #[.pointer p, .agg #[.int .i64 x, .int .i64 y, .int .u32 z], fv] w fun e w' => e = .returned (.int .i64 1) ∧ Below w.heap.size w w' := by
  have H := Lib.hid (h.below ((Below.refl _ w).alloc (Nat.le_refl _) (.cells #[.int .i64 x, .int .i64 y, .int .u32 z] 25)))
  clear h
  go_enter Tryz.func189, Tryz.ntmps189
  go_wp2_with (go_at_call 168; refine (fvalid_no _ _ H.out).mono ?_; rintro e w' ⟨rfl, rfl⟩)
  go_ret
  exact ⟨rfl, (Below.refl _ _).alloc (Nat.le_refl _) _⟩
set_option maxHeartbeats 1000000 in
set_option maxRecDepth 100000 in
theorem found_bad (b k m : Nat) (F : Fb) (x y z : Int) (hr : RgO x y z) (hf : ¬ IsFile x y z) (fv : Value) (w : World) (h : FW w b k m F) : Calls Tryz.prog 189 #[.pointer (some ⟨b, 0, none⟩), .agg #[.int .i64 x, .int .i64 y, .int .u32 z], fv] w fun e w' => e = .returned (.int .i64 2) ∧ Below w.heap.size w w' := by
  have hc := h.c0
  have hlt := h.hb.lt
  clear h
  rcases not_file hf hr with hb | ⟨hk, k', i', g', rfl, rfl, rfl, ho⟩
  · have HR := Lib.hid hr
    have HH := Lib.hid hb
    clear hr hf hb
    go_enter Tryz.func189, Tryz.ntmps189
    go_wp2_with (first
      | (go_at_call 168; refine (fvalid_yes _ k _ (cell_keeps ((Below.refl _ w).alloc (Nat.le_refl _) _) hc)).mono ?_; rintro e w' ⟨rfl, rfl⟩)
      | (go_at_call 43; refine (ochk_bad _ _ _ HR.out HH.out _).mono ?_; rintro e w2 ⟨rfl, hb2⟩; have HB := Lib.hid hb2; clear hb2))
    go_ret
    exact ⟨rfl, bel2 ((Below.refl _ _).alloc (Nat.le_refl _) _) HB.out⟩
  · have HH := Lib.hid ho
    clear hr hf ho
    go_enter Tryz.func189, Tryz.ntmps189
    go_wp2_with (first
      | (go_at_call 168; refine (fvalid_yes _ k _ (cell_keeps ((Below.refl _ w).alloc (Nat.le_refl _) _) hc)).mono ?_; rintro e w' ⟨rfl, rfl⟩)
      | (go_at_call 43; refine (ochk_ok _ _ _ HH.out _).mono ?_; rintro e w2 ⟨rfl, hb2⟩; have HB := Lib.hid hb2; have hc2 := (bcell hb2).1 w.heap.size 0 (by simp); clear hb2))
    go_ret
    exact ⟨rfl, bel2 ((Below.refl _ _).alloc (Nat.le_refl _) _) HB.out⟩

set_option maxHeartbeats 1000000 in
set_option maxRecDepth 100000 in
theorem found_stale (b k m : Nat) (F : Fb) (y z E : Int) (hr : RgO 1 y z) (hf : IsFile 1 y z) (hE : F.t.chk y z = E) (h0 : E ≠ 0) (fv : Value) (w : World) (h : FW w b k m F) : Calls Tryz.prog 189 #[.pointer (some ⟨b, 0, none⟩), .agg #[.int .i64 1, .int .i64 y, .int .u32 z], fv] w fun e w' => e = .returned (.int .i64 E) ∧ Below w.heap.size w w' := by
  obtain ⟨_, i', g', rfl, rfl, ho⟩ := hf.okn hr
  have hc := h.c0
  have CK : Hid (∀ W, Below w.heap.size w W → Calls Tryz.prog 141 #[.pointer (some ⟨k, 0, none⟩), .agg #[.int .i64 i', .int .u32 g']] W fun e w' => e = .returned (.int .i64 E) ∧ Below W.heap.size W w') := fun W hW => by
    have := check_any k F.t i' g' W (h.tab.below hW)
    rw [hE] at this; exact this
  have hlt := h.hb.lt
  have HC : Hid (∀ W, Below w.heap.size w W → W.cell? ⟨b, 0, none⟩ = some (.pointer (some ⟨k, 0, none⟩))) := fun W hW => (h.below hW).c0
  have HH := Lib.hid ho
  have hE0 : (E == 0) = false := beq_eq_false_iff_ne.2 h0
  clear hr hf ho h hE h0
  go_enter Tryz.func189, Tryz.ntmps189
  go_wp2_with (first
    | (go_at_call 168; refine (fvalid_yes _ k _ (cell_keeps ((Below.refl _ w).alloc (Nat.le_refl _) _) hc)).mono ?_; rintro e w' ⟨rfl, rfl⟩)
    | (go_at_call 43; refine (ochk_ok _ _ _ HH.out _).mono ?_; rintro e w2 ⟨rfl, hb2⟩; have HB := Lib.hid (bel2 ((Below.refl _ _).alloc (Nat.le_refl _) _) hb2); obtain ⟨q0, q1, q2, hl2⟩ := box_o hb2; have hc3 := HC.out w2 HB.out; clear hb2))
  have hbl : b < w2.heap.size := World.block_lt_of_cell? _ _ hc3
  have S0 : (w2.alloc (.cells #[.int .i64 i', .int .u32 g'] 193)).cell? ⟨b, 0, none⟩ = some (.pointer (some ⟨k, 0, none⟩)) ∧ (w2.alloc (.cells #[.int .i64 i', .int .u32 g'] 193)).cell? ⟨w2.heap.size, 0, none⟩ = some (.int .i64 i') ∧ (w2.alloc (.cells #[.int .i64 i', .int .u32 g'] 193)).cell? ⟨w2.heap.size, 1, none⟩ = some (.int .u32 g') := by
    have hn := Bk.new w2 193 #[.int .i64 i', .int .u32 g']
    exact ⟨cell_keeps ((Below.refl _ w2).alloc (Nat.le_refl _) _) hc3, hn.cell 0, hn.cell 1⟩
  have B0 := Lib.hid (bel_drew (bel_alloc HB.out (.cells #[.int .i64 i', .int .u32 g'] 193)))
  generalize (w2.alloc (.cells #[.int .i64 i', .int .u32 g'] 193)) = w4 at *
  obtain ⟨s0, s1, s2⟩ := S0
  go_region_held3 (fun W => W.cell? ⟨b, 0, none⟩ = some (.pointer (some ⟨k, 0, none⟩)) ∧ W.cell? ⟨w2.heap.size, 0, none⟩ = some (.int .i64 i') ∧ W.cell? ⟨w2.heap.size, 1, none⟩ = some (.int .u32 g')) (first | (exact ⟨s0, s1, s2⟩) | (with_reducible exact hz1)) (first
    | (go_at_call 141; (with_reducible refine (CK.out _ B0.out).mono ?_); rintro e w5 ⟨rfl, hb5⟩; have HB5 := Lib.hid (bel2 B0.out hb5); have hz1 := And.intro (cell_keeps hb5 s0) (And.intro (cell_keeps hb5 s1) (cell_keeps hb5 s2)); clear hb5))
  all_goals
    go_wp2
    go_ret
    exact ⟨rfl, HB5.out⟩

/-! ### the closure of Close -/
theorem FW.drewN {w : World} {b k m : Nat} {F : Fb} (h : FW w b k m F) (n : Nat) : FW (w.drewN n) b k m F := h.same fun _ _ => rfl
/-- A file that was given back, and is struck from the map. -/
theorem fclose_fin {w W : World} {b k m : Nat} {F : Fb} (h : FW w b k m F) {i : Nat} (hi : i < F.t.n) (hs : F.t.s i = 1) (hT : TabW W k (F.t.gave i)) (hk : Kept (· = k) w W) (ty : TypeId) :
    ∃ w', (Builtin.delete_ #[151, 25] ty #[.map (some m), okey 1 i (F.t.g i)]).run Tryz.prog W = .ok (.tuple #[]) w' ∧ FW w' b k m (F.close i) ∧ Kept (FFoot b k m) w w' := by
  have hr : RgO 1 i (F.t.g i) := by
    have := h.ok.t.gm i
    have := h.ok.hi
    exact ⟨by omega, by omega, by omega, by omega, by omega, by omega⟩
  have hl : F.look 1 i (F.t.g i) = some (F.num i) := by
    rw [Fb.look_open (h.ok.chk_held hi hs)]; rfl
  have m1 := h.map.same (hk.block m h.map.lt (fun e => h.km e.symm))
  obtain ⟨w', hrun, hm, hk2⟩ := m1.drop hr (by rw [hl]; rfl) ty
  refine ⟨w', hrun, ⟨h.ok.close i, (h.hb.kept hk h.bk).kept hk2 h.bm, hT.kept hk2 h.km, ?_⟩, ?_⟩
  · have e1 : (F.close i).t.held.length = F.t.held.length - 1 := held_close hi hs
    rw [e1]
    refine hm.congr fun x y z _ => ?_
    rw [Fb.look_close h.ok hi hs]; rfl
  · exact (hk.mono fun g _ e => .inr (.inl e)).trans (hk2.mono fun g _ e => .inr (.inr e))
set_option maxHeartbeats 1000000 in
set_option maxRecDepth 100000 in
theorem close1_ok (B C b k m i : Nat) (F : Fb) (w : World) (h : FW w b k m F) (hi : i < F.t.n) (hs : F.t.s i = 1) (hB : Bk w B 84 #[.pointer (some ⟨b, 0, none⟩)]) (hC : Bk w C 25 #[.int .i64 1, .int .i64 i, .int .u32 (F.t.g i)]) :
    Calls Tryz.prog 190 #[.agg #[.int .i64 i, .int .u32 (F.t.g i)], .pointer (some ⟨B, 0, none⟩), .pointer (some ⟨C, 0, none⟩)] w fun e w' => e = .returned (.tuple #[]) ∧ FW w' b k m (F.close i) ∧ Kept (FFoot b k m) w w' := by
  have hBk : B ≠ k := by rintro rfl; exact absurd (hB.uniq h.tab.bk).1 (by decide)
  have hCk : C ≠ k := by rintro rfl; exact absurd (hC.uniq h.tab.bk).1 (by decide)
  have hbk := h.bk
  have hkl := h.tab.bt
  obtain ⟨z, hz⟩ : ∃ z, F.t.g i = z := ⟨_, rfl⟩
  have GV : Hid (∀ W, Below w.heap.size w W → Calls Tryz.prog 191 #[.pointer (some ⟨k, 0, none⟩), .agg #[.int .i64 i, .int .u32 z]] W fun e w' => e = .returned (.int .i64 0) ∧ TabW w' k (F.t.gave i) ∧ Kept (· = k) W w') := fun W hW =>
    give_ok k F.t i z W (h.tab.below hW) hi hs (by rw [hz])
  have FIN : Hid (∀ W W', Below w.heap.size w W → TabW W' k (F.t.gave i) → Kept (· = k) W W' → ∃ w', (Builtin.delete_ #[151, 25] 0 #[.map (some m), .agg #[.int .i64 1, .int .i64 i, .int .u32 z]]).run Tryz.prog W'.drew = .ok (.tuple #[]) w' ∧ FW w' b k m (F.close i) ∧ Kept (FFoot b k m) w w') := fun W W' hW hT hk => by
    have := fclose_fin (h.below hW) hi hs (hT.drewN 1) hk.drew 0
    rw [hz] at this
    obtain ⟨w', h1, h2, h3⟩ := this
    exact ⟨w', h1, h2, (Kept.of_below hW).trans h3⟩
  have R0 : w.cell? ⟨B, 0, none⟩ = some (.pointer (some ⟨b, 0, none⟩)) := hB.cell 0
  have R1 := h.c0
  have R2 := h.c1
  have C0 : w.cell? ⟨C, 0, none⟩ = some (.int .i64 1) := hC.cell 0
  have C1 : w.cell? ⟨C, 1, none⟩ = some (.int .i64 i) := hC.cell 1
  have C2 : w.cell? ⟨C, 2, none⟩ = some (.int .u32 (F.t.g i)) := hC.cell 2
  rw [hz] at C2 ⊢
  clear h hi hs hB hC hz
  go_enter Tryz.func190, Tryz.ntmps190
  go_wp2
  have S0 : (w.alloc (.cells #[.int .i64 i, .int .u32 z] 193)).cell? ⟨w.heap.size, 0, none⟩ = some (.int .i64 i) ∧ (w.alloc (.cells #[.int .i64 i, .int .u32 z] 193)).cell? ⟨w.heap.size, 1, none⟩ = some (.int .u32 z) := by
    have hn := Bk.new w 193 #[.int .i64 i, .int .u32 z]
    exact ⟨hn.cell 0, hn.cell 1⟩
  have hb0 : Below w.heap.size w (w.alloc (.cells #[.int .i64 i, .int .u32 z] 193)) := (Below.refl _ w).alloc (Nat.le_refl _) _
  have B0 := Lib.hid (bel_drew hb0)
  have hne : w.heap.size ≠ k := by omega
  generalize (w.alloc (.cells #[.int .i64 i, .int .u32 z] 193)) = w4 at *
  obtain ⟨s0, s1⟩ := S0
  have r0 := cell_keeps hb0 R0
  have r1 := cell_keeps hb0 R1
  have r2 := cell_keeps hb0 R2
  have c0 := cell_keeps hb0 C0
  have c1 := cell_keeps hb0 C1
  have c2 := cell_keeps hb0 C2
  clear R0 R1 R2 C0 C1 C2 hb0
  go_region_held3 (fun W => W.cell? ⟨B, 0, none⟩ = some (.pointer (some ⟨b, 0, none⟩)) ∧ W.cell? ⟨b, 0, none⟩ = some (.pointer (some ⟨k, 0, none⟩)) ∧ W.cell? ⟨w.heap.size, 0, none⟩ = some (.int .i64 i) ∧ W.cell? ⟨w.heap.size, 1, none⟩ = some (.int .u32 z)) (first | (exact ⟨r0, r1, s0, s1⟩) | (with_reducible exact hz1)) (first
    | (go_at_call 191; (with_reducible refine (GV.out _ B0.out).mono ?_); rintro e w5 ⟨rfl, hT5, hk5⟩; have hz1 := And.intro (kept_cell hk5 r0 hBk) (And.intro (kept_cell hk5 r1 hbk) (And.intro (kept_cell hk5 s0 hne) (kept_cell hk5 s1 hne))); have q0 := kept_cell hk5 r2 hbk; have d0 := kept_cell hk5 c0 hCk; have d1 := kept_cell hk5 c1 hCk; have d2 := kept_cell hk5 c2 hCk; obtain ⟨w6, hrun, hF, hK⟩ := FIN.out _ _ B0.out hT5 hk5; have HF := Lib.hid (And.intro hF hK); clear hT5 hk5 hF hK))
  all_goals
    obtain ⟨t0, t1, t2, t3⟩ := hz1
    clear r0 r1 r2 c0 c1 c2 s0 s1
    go_wp2
    go_region
    go_end0
    exact ⟨rfl, HF.out⟩

/-! ### the closure of Number -/
end Go.Proofs.YtpinmiplefidpaaGreatDoor.FD

namespace Go.Proofs.YtpinmiplefidpaaGreatDoor.FD
open Go.RowKit

theorem Fb.chk_is {F : Fb} (hF : F.Ok) {y z : Int} (h : F.chk 1 y z = 0) : ∃ i : Nat, y = i ∧ i < F.t.n ∧ F.t.s i = 1 ∧ z = F.t.g i ∧ Okn 64 1 i (F.t.g i) := by
  obtain ⟨_, j, rfl, h1, h2, h3⟩ := Fb.chk_open h
  have a1 := hF.hi
  have a2 := hF.t.g1 j h1
  have a3 := hF.t.gm j
  exact ⟨j, rfl, h1, h2, h3.symm, by omega, by omega, by omega, a2, a3⟩

set_option maxHeartbeats 1000000 in
set_option maxRecDepth 100000 in
theorem found_close (B C b k m i : Nat) (F : Fb) (w : World) (h : FW w b k m F) (hi : i < F.t.n) (hs : F.t.s i = 1) (hB : Bk w B 84 #[.pointer (some ⟨b, 0, none⟩)]) (hC : Bk w C 25 #[.int .i64 1, .int .i64 i, .int .u32 (F.t.g i)]) :
    Calls Tryz.prog 189 #[.pointer (some ⟨b, 0, none⟩), .agg #[.int .i64 1, .int .i64 i, .int .u32 (F.t.g i)], .func (.func 190) #[] #[.pointer (some ⟨B, 0, none⟩), .pointer (some ⟨C, 0, none⟩)]] w fun e w' => e = .returned (.int .i64 0) ∧ Hid (FW w' b k m (F.close i) ∧ Kept (FFoot b k m) w w') := by
  obtain ⟨z, hz⟩ : ∃ z, F.t.g i = z := ⟨_, rfl⟩
  have HH : Hid (Okn 64 1 i z) := by
    have a1 := h.ok.hi
    have a2 := h.ok.t.g1 i hi
    have a3 := h.ok.t.gm i
    exact ⟨by omega, by omega, by omega, by omega, by omega⟩
  have hc := h.c0
  have CK : Hid (∀ W, Below w.heap.size w W → Calls Tryz.prog 141 #[.pointer (some ⟨k, 0, none⟩), .agg #[.int .i64 i, .int .u32 z]] W fun e w' => e = .returned (.int .i64 0) ∧ Below W.heap.size W w') := fun W hW => by
    have := check_any k F.t i z W (h.tab.below hW)
    rw [← hz, Tb.chk_held hi hs] at this
    rw [← hz]; exact this
  have HC : Hid (∀ W, Below w.heap.size w W → W.cell? ⟨b, 0, none⟩ = some (.pointer (some ⟨k, 0, none⟩))) := fun W hW => (h.below hW).c0
  have CL : Hid (∀ W, Below w.heap.size w W → Calls Tryz.prog 190 #[.agg #[.int .i64 i, .int .u32 z], .pointer (some ⟨B, 0, none⟩), .pointer (some ⟨C, 0, none⟩)] W fun e w' => e = .returned (.tuple #[]) ∧ Hid (FW w' b k m (F.close i) ∧ Kept (FFoot b k m) w w')) := fun W hW => by
    have := close1_ok B C b k m i F W (h.below hW) hi hs (hB.below hW) (hC.below hW)
    rw [hz] at this
    exact this.mono fun e w' ⟨h1, h2, h3⟩ => ⟨h1, h2, (Kept.of_below hW).trans h3⟩
  clear hB hC
  rw [hz]
  clear h hi hs hz
  go_enter Tryz.func189, Tryz.ntmps189
  go_wp2_with (first
    | (go_at_call 168; refine (fvalid_yes _ k _ (cell_keeps ((Below.refl _ w).alloc (Nat.le_refl _) _) hc)).mono ?_; rintro e w' ⟨rfl, rfl⟩)
    | (go_at_call 43; refine (ochk_ok _ _ _ HH.out _).mono ?_; rintro e w2 ⟨rfl, hb2⟩; have HB := Lib.hid (bel2 ((Below.refl _ _).alloc (Nat.le_refl _) _) hb2); obtain ⟨q0, q1, q2, hl2⟩ := box_o hb2; have hc3 := HC.out w2 HB.out; clear hb2))
  have hbl : b < w2.heap.size := World.block_lt_of_cell? _ _ hc3
  have S0 : (w2.alloc (.cells #[.int .i64 i, .int .u32 z] 193)).cell? ⟨b, 0, none⟩ = some (.pointer (some ⟨k, 0, none⟩)) ∧ (w2.alloc (.cells #[.int .i64 i, .int .u32 z] 193)).cell? ⟨w2.heap.size, 0, none⟩ = some (.int .i64 i) ∧ (w2.alloc (.cells #[.int .i64 i, .int .u32 z] 193)).cell? ⟨w2.heap.size, 1, none⟩ = some (.int .u32 z) := by
    have hn := Bk.new w2 193 #[.int .i64 i, .int .u32 z]
    exact ⟨cell_keeps ((Below.refl _ w2).alloc (Nat.le_refl _) _) hc3, hn.cell 0, hn.cell 1⟩
  have B0 := Lib.hid (bel_drew (bel_alloc HB.out (.cells #[.int .i64 i, .int .u32 z] 193)))
  generalize (w2.alloc (.cells #[.int .i64 i, .int .u32 z] 193)) = w4 at *
  obtain ⟨s0, s1, s2⟩ := S0
  go_region_held3 (fun W => W.cell? ⟨b, 0, none⟩ = some (.pointer (some ⟨k, 0, none⟩)) ∧ W.cell? ⟨w2.heap.size, 0, none⟩ = some (.int .i64 i) ∧ W.cell? ⟨w2.heap.size, 1, none⟩ = some (.int .u32 z)) (first | (exact ⟨s0, s1, s2⟩) | (with_reducible exact hz1)) (first
    | (go_at_call 141; (with_reducible refine (CK.out _ B0.out).mono ?_); rintro e w5 ⟨rfl, hb5⟩; have HB5 := Lib.hid (bel2 B0.out hb5); have hz1 := And.intro (cell_keeps hb5 s0) (And.intro (cell_keeps hb5 s1) (cell_keeps hb5 s2)); clear hb5))
  all_goals
    obtain ⟨t0, t1, t2⟩ := hz1
    go_wp2_with (go_at_call 190; refine (CL.out _ HB5.out).mono ?_; rintro e w6 ⟨rfl, HF⟩)
    go_ret
    exact ⟨rfl, HF⟩

end Go.Proofs.YtpinmiplefidpaaGreatDoor.FD

namespace Go.Proofs.YtpinmiplefidpaaGreatDoor.FD
open Go.RowKit

theorem bel_two (w : World) (o q : Obj) : Below w.heap.size w ((w.alloc o).alloc q) := bel_alloc ((Below.refl _ w).alloc (Nat.le_refl _) _) _
/-- What Close says of a table, and what it leaves. -/
def CloseP (b k m : Nat) (F : Fb) (x y z : Int) (w : World) (e : Ending) (w' : World) : Prop := e = .returned (.int .i64 (F.chk x y z)) ∧ FW w' b k m (F.closed x y z) ∧ Kept (FFoot b k m) w w'

set_option maxHeartbeats 1000000 in
set_option maxRecDepth 100000 in
theorem fclose_inv (p : Option Addr) (x y z : Int) (w : World) (h : FInv w p) : Calls Tryz.prog 186 #[.pointer p, .agg #[.int .i64 x, .int .i64 y, .int .u32 z]] w fun e w' => e = .returned (.int .i64 1) ∧ Below w.heap.size w w' := by
  have FD : Hid (∀ W fv, Below w.heap.size w W → Calls Tryz.prog 189 #[.pointer p, .agg #[.int .i64 x, .int .i64 y, .int .u32 z], fv] W fun e w' => e = .returned (.int .i64 1) ∧ Below W.heap.size W w') := fun W fv hW => found_inv p x y z fv W (h.below hW)
  clear h
  go_enter Tryz.func186, Tryz.ntmps186
  go_wp2_with (go_at_call 189; refine (FD.out _ _ (bel_two _ _ _)).mono ?_; rintro e w2 ⟨rfl, hb2⟩; have HB := Lib.hid (bel2 (bel_two _ _ _) hb2); clear hb2)
  go_ret
  exact ⟨rfl, HB.out⟩
/-- Where a resource is no open file, found says why. -/
theorem found_no (b k m : Nat) (F : Fb) (x y z : Int) (hr : RgO x y z) (h0 : F.chk x y z ≠ 0) (fv : Value) (w : World) (h : FW w b k m F) : Calls Tryz.prog 189 #[.pointer (some ⟨b, 0, none⟩), .agg #[.int .i64 x, .int .i64 y, .int .u32 z], fv] w fun e w' => e = .returned (.int .i64 (F.chk x y z)) ∧ Below w.heap.size w w' := by
  rcases F.chk_cases x y z with ⟨h1, h2⟩ | ⟨h1, h2⟩
  · rw [h2]; exact found_bad b k m F x y z hr h1 fv w h
  · rw [h2] at h0 ⊢
    obtain rfl := h1.1
    exact found_stale b k m F y z _ hr h1 rfl h0 fv w h
set_option maxHeartbeats 1000000 in
set_option maxRecDepth 100000 in
theorem fclose_no (b k m : Nat) (F : Fb) (x y z : Int) (hr : RgO x y z) (h0 : F.chk x y z ≠ 0) (w : World) (h : FW w b k m F) : Calls Tryz.prog 186 #[.pointer (some ⟨b, 0, none⟩), .agg #[.int .i64 x, .int .i64 y, .int .u32 z]] w fun e w' => e = .returned (.int .i64 (F.chk x y z)) ∧ Below w.heap.size w w' := by
  have FD : Hid (∀ W fv, Below w.heap.size w W → Calls Tryz.prog 189 #[.pointer (some ⟨b, 0, none⟩), .agg #[.int .i64 x, .int .i64 y, .int .u32 z], fv] W fun e w' => e = .returned (.int .i64 (F.chk x y z)) ∧ Below W.heap.size W w') := fun W fv hW => found_no b k m F x y z hr h0 fv W (h.below hW)
  generalize F.chk x y z = E at *
  clear h hr h0
  go_enter Tryz.func186, Tryz.ntmps186
  go_wp2_with (go_at_call 189; refine (FD.out _ _ (bel_two _ _ _)).mono ?_; rintro e w2 ⟨rfl, hb2⟩; have HB := Lib.hid (bel2 (bel_two _ _ _) hb2); clear hb2)
  go_ret
  exact ⟨rfl, HB.out⟩
theorem bk_two (w : World) (t s : TypeId) (cs ds : Array Value) : Bk ((w.alloc (.cells cs t)).alloc (.cells ds s)) w.heap.size t cs ∧ Bk ((w.alloc (.cells cs t)).alloc (.cells ds s)) (w.heap.size + 1) s ds := by
  have h2 := Bk.new (w.alloc (.cells cs t)) s ds
  rw [World.size_alloc] at h2
  exact ⟨(Bk.new w t cs).up _, h2⟩
set_option maxHeartbeats 1000000 in
set_option maxRecDepth 100000 in
theorem fclose_yes (b k m i : Nat) (F : Fb) (w : World) (h : FW w b k m F) (hi : i < F.t.n) (hs : F.t.s i = 1) : Calls Tryz.prog 186 #[.pointer (some ⟨b, 0, none⟩), .agg #[.int .i64 1, .int .i64 i, .int .u32 (F.t.g i)]] w fun e w' => e = .returned (.int .i64 0) ∧ FW w' b k m (F.close i) ∧ Kept (FFoot b k m) w w' := by
  have hW := bel_two w (.cells #[.pointer (some ⟨b, 0, none⟩)] 84) (.cells #[.int .i64 1, .int .i64 i, .int .u32 (F.t.g i)] 25)
  have hb := bk_two w 84 25 #[.pointer (some ⟨b, 0, none⟩)] #[.int .i64 1, .int .i64 i, .int .u32 (F.t.g i)]
  have FD := Lib.hid (found_close w.heap.size (w.heap.size + 1) b k m i F _ (h.below hW) hi hs hb.1 hb.2)
  have HW := Lib.hid hW
  generalize F.t.g i = z at *
  clear h hi hs hW hb
  go_enter Tryz.func186, Tryz.ntmps186
  go_wp2_with (go_at_call 189; refine FD.out.mono ?_; rintro e w2 ⟨rfl, HF⟩)
  go_ret
  exact ⟨rfl, HF.out.1, (Kept.of_below HW.out).trans HF.out.2⟩
theorem fclose_ok (b k m : Nat) (F : Fb) (x y z : Int) (hr : RgO x y z) (w : World) (h : FW w b k m F) : Calls Tryz.prog 186 #[.pointer (some ⟨b, 0, none⟩), .agg #[.int .i64 x, .int .i64 y, .int .u32 z]] w (CloseP b k m F x y z w) := by
  by_cases h0 : F.chk x y z = 0
  · obtain rfl := (Fb.chk_open h0).1
    obtain ⟨i, rfl, hi, hs, rfl, _⟩ := Fb.chk_is h.ok h0
    refine (fclose_yes b k m i F w h hi hs).mono ?_
    rintro e w' ⟨rfl, h1, h2⟩
    refine ⟨by rw [h0], ?_, h2⟩
    unfold Fb.closed
    rw [if_pos h0]; exact h1
  · refine (fclose_no b k m F x y z hr h0 w h).mono ?_
    rintro e w' ⟨rfl, hb⟩
    refine ⟨rfl, ?_, Kept.of_below hb⟩
    unfold Fb.closed
    rw [if_neg h0]; exact h.below hb
end Go.Proofs.YtpinmiplefidpaaGreatDoor.FD

namespace Go.Proofs.YtpinmiplefidpaaGreatDoor.FD
open Go.RowKit

theorem _root_.Go.Proofs.YtpinmiplefidpaaGreatDoor.Kept.thenB' {S : Nat → Prop} {a b c : World} (h : Kept S a b) (k : Below b.heap.size b c) : Kept S a c := h.trans (Kept.of_below k)
/-- Three cells of a block that are stored anew. -/
theorem put3 {w : World} {g : Nat} {t : TypeId} {a b c : Value} (h : Bk w g t #[a, b, c]) (x y z : Value) :
    Bk (((w.setCell ⟨g, 0, none⟩ x).setCell ⟨g, 1, none⟩ y).setCell ⟨g, 2, none⟩ z) g t #[x, y, z] ∧ Kept (· = g) w (((w.setCell ⟨g, 0, none⟩ x).setCell ⟨g, 1, none⟩ y).setCell ⟨g, 2, none⟩ z) :=
  ⟨((h.put 0 x).put 1 y).put 2 z, (((Kept.refl _ w).put1 0 x).put1 1 y).put1 2 z⟩
theorem keep_new {S : Nat → Prop} {a b c : World} (h : Kept S a b) (k : Kept (· = a.heap.size) b c) : Kept S a c :=
  ⟨k.os.trans h.os, k.tape.trans h.tape, k.output.trans h.output, Nat.le_trans h.size k.size, fun i hi hs => (k.block i (Nat.lt_of_lt_of_le hi h.size) (by omega)).trans (h.block i hi hs)⟩
/-- Open's end: what its result's cell holds is returned. -/
theorem open_ret {B : Nat} {E : Int} {W : World} {x y z : Value} {P : Ending → World → Prop} {a : Act} (hN : Bk W B 25 #[x, y, z]) (h4 : a.tmps[4]? = some (.pointer (some ⟨B, 0, none⟩))) (h5 : a.tmps[5]? = some (.int .i64 E)) (hd : a.defers = [])
    (hP : P (.returned (.tuple #[.agg #[x, y, z], .int .i64 E])) W) : bodyPost Tryz.prog Tryz.f185 P Exit.ret a W := by
  have c0 : W.cell? ⟨B, 0, none⟩ = some x := hN.cell 0
  have c1 : W.cell? ⟨B, 1, none⟩ = some y := hN.cell 1
  have c2 : W.cell? ⟨B, 2, none⟩ = some z := hN.cell 2
  have e4 : a.tmps.getD 4 undef = .pointer (some ⟨B, 0, none⟩) := by rw [Array.getD_eq_getD_getElem?, h4]; rfl
  have e5 : a.tmps.getD 5 undef = .int .i64 E := by rw [Array.getD_eq_getD_getElem?, h5]; rfl
  refine bodyPost_ret (v := .tuple #[.agg #[x, y, z], .int .i64 E]) ?_ hd hP
  rw [results_cell_tmp rfl, e4, e5]
  go_simp
set_option maxHeartbeats 1000000 in
set_option maxRecDepth 100000 in
theorem fopen_inv (p : Option Addr) (x : Int) (w : World) (h : FInv w p) : Calls Tryz.prog 185 #[.pointer p, .int .i64 x] w fun e w' => e = .returned (.tuple #[.agg #[.int .i64 0, .int .i64 0, .int .u32 0], .int .i64 1]) ∧ Below w.heap.size w w' := by
  have H := Lib.hid (h.below ((Below.refl _ w).alloc (Nat.le_refl _) (.cells #[.int .i64 0, .int .i64 0, .int .u32 0] 25)))
  clear h
  go_enter Tryz.func185, Tryz.ntmps185
  go_wp2_with (go_at_call 168; refine (fvalid_no _ _ H.out).mono ?_; rintro e w' ⟨rfl, rfl⟩)
  refine bodyPost_ret (v := .tuple #[.agg #[.int .i64 0, .int .i64 0, .int .u32 0], .int .i64 1]) (by simp [results, Tryz.results185, go_sem]) rfl ⟨rfl, ?_⟩
  exact (Below.refl _ w).alloc (Nat.le_refl _) _
set_option maxRecDepth 100000 in
theorem fopen_arg (b k m : Nat) (F : Fb) (x : Int) (hx : I64 x) (hx2 : x < 0 ∨ 65535 < x) (w : World) (h : FW w b k m F) : Calls Tryz.prog 185 #[.pointer (some ⟨b, 0, none⟩), .int .i64 x] w fun e w' => e = .returned (.tuple #[.agg #[.int .i64 0, .int .i64 0, .int .u32 0], .int .i64 2]) ∧ Below w.heap.size w w' := by
  have hc := h.c0
  obtain ⟨x0, x1⟩ := hx
  clear h
  rcases hx2 with hx2 | hx2
  all_goals
    go_enter Tryz.func185, Tryz.ntmps185
    go_wp2_with (go_at_call 168; refine (fvalid_yes _ k _ (cell_keeps ((Below.refl _ w).alloc (Nat.le_refl _) _) hc)).mono ?_; rintro e w' ⟨rfl, rfl⟩)
    refine bodyPost_ret (v := .tuple #[.agg #[.int .i64 0, .int .i64 0, .int .u32 0], .int .i64 2]) (by simp [results, Tryz.results185, go_sem]) rfl ⟨rfl, ?_⟩
    exact (Below.refl _ w).alloc (Nat.le_refl _) _
set_option maxHeartbeats 1000000 in
set_option maxRecDepth 100000 in
theorem fopen_full (b k m x : Nat) (F : Fb) (hx : x ≤ 65535) (hf : F.t.free = []) (w : World) (h : FW w b k m F) : Calls Tryz.prog 185 #[.pointer (some ⟨b, 0, none⟩), .int .i64 x] w fun e w' => e = .returned (.tuple #[.agg #[.int .i64 0, .int .i64 0, .int .u32 0], .int .i64 4]) ∧ FW w' b k m F ∧ Kept (FFoot b k m) w w' := by
  have hc := h.c0
  have hkl := h.tab.bt
  have TK : Hid (∀ W, Below w.heap.size w W → Calls Tryz.prog 188 #[.pointer (some ⟨k, 0, none⟩)] W fun e w' => e = .returned (.tuple #[.agg #[.int .i64 0, .int .u32 0], .int .i64 4]) ∧ Hid (FW w' b k m F ∧ Kept (FFoot b k m) w w') ∧ Kept (· = k) W w') := fun W hW => by
    refine (take_ok k F.t W (h.below hW).tab).mono ?_
    rintro e w' ⟨rfl, h1, h2⟩
    have e1 : F.t.take = F.t := by unfold Tb.take; rw [hf]
    have e2 : F.t.tI = 0 := by unfold Tb.tI; rw [hf]
    have e3 : F.t.tG = 0 := by unfold Tb.tG; rw [hf]
    have e4 : F.t.tE = 4 := by unfold Tb.tE; rw [hf]
    rw [e1] at h1
    have hw := h.below hW
    exact ⟨by rw [e2, e3, e4]; rfl, ⟨⟨hw.ok, hw.hb.kept h2 hw.bk, h1, hw.map.same (h2.block m hw.map.lt fun e => hw.km e.symm)⟩, (Kept.of_below hW).trans (h2.mono fun g _ e => .inr (.inl e))⟩, h2⟩
  have h0 := fun g hg => h.foot_lt (g := g) hg
  have hx' : ¬ 65535 < (x : Int) := by omega
  have hx'' : ¬ (x : Int) < 0 := by omega
  have FIN : Hid (∀ W W' : World, FW W b k m F ∧ Kept (FFoot b k m) w W → Below W.heap.size W W' → FW W' b k m F ∧ Kept (FFoot b k m) w W') := fun W W' h1 h2 => ⟨h1.1.below h2, h1.2.thenB' h2⟩
  clear h hf
  go_enter Tryz.func185, Tryz.ntmps185
  go_wp2_with (first
    | (go_at_call 168; refine (fvalid_yes _ k _ (cell_keeps ((Below.refl _ w).alloc (Nat.le_refl _) _) hc)).mono ?_; rintro e w' ⟨rfl, rfl⟩; have hq := cell_keeps ((Below.refl _ w).alloc (Nat.le_refl _) (.cells #[.int .i64 0, .int .i64 0, .int .u32 0] 25)) hc)
    | (go_at_call 188; refine (TK.out _ ((Below.refl _ w).alloc (Nat.le_refl _) _)).mono ?_; rintro e w5 ⟨rfl, HF, hk5⟩; have hn := (Bk.new w 25 #[.int .i64 0, .int .i64 0, .int .u32 0]).kept hk5 (by omega); have z0 : w5.cell? ⟨w.heap.size, 0, none⟩ = some (.int .i64 0) := hn.cell 0; have z1 : w5.cell? ⟨w.heap.size, 1, none⟩ = some (.int .i64 0) := hn.cell 1; have z2 : w5.cell? ⟨w.heap.size, 2, none⟩ = some (.int .u32 0) := hn.cell 2; have f0 := hn.frozen 0; have f1 := hn.frozen 1; have f2 := hn.frozen 2; have hl5 := hn.lt; have HN := Lib.hid hn; clear hk5 hn))
  obtain ⟨hF, hK⟩ := HF.out
  obtain ⟨hN, hK6⟩ := put3 HN.out (.int .i64 0) (.int .i64 0) (.int .u32 0)
  have hF6 := hF.kept hK6 (fun g hg e => by have := h0 g hg; omega)
  have hK7 := keep_new hK hK6
  generalize ((w5.setCell ⟨w.heap.size, 0, none⟩ (.int .i64 0)).setCell ⟨w.heap.size, 1, none⟩ (.int .i64 0)).setCell ⟨w.heap.size, 2, none⟩ (.int .u32 0) = w6 at *
  exact open_ret (hN.up _) rfl rfl rfl ⟨rfl, hF6.below ((Below.refl _ _).alloc (Nat.le_refl _) _), hK7.alloc _⟩

/-- A file that was taken, and is put into the map. -/
theorem fopen_fin {w W W8 : World} {b k m i x : Nat} {F : Fb} (h : FW w b k m F) (hx : x ≤ 65535) (hi : i < F.t.n) (hs : F.t.s i = 0) (hT : TabW W k (F.t.took i)) (hk : Kept (· = k) w W) (hb : Below W.heap.size W W8) :
    ∃ w9, (Instr.mapUpdate 151 (.map (some m)) (.agg #[.int .i64 1, .int .i64 i, .int .u32 (F.t.g i)]) (.int .i64 x)).run Tryz.prog W8 = .ok () w9 ∧ FW w9 b k m (F.opened i x) ∧ Kept (FFoot b k m) w w9 ∧ Kept (· = m) W8 w9 := by
  have hr : RgO 1 i (F.t.g i) := by
    have := h.ok.t.gm i
    have := h.ok.hi
    exact ⟨by omega, by omega, by omega, by omega, by omega, by omega⟩
  have hn : F.look 1 i (F.t.g i) = none := Fb.look_none fun e => by
    obtain ⟨_, j, hj, _, h2, _⟩ := Fb.chk_open e
    obtain rfl : i = j := by omega
    omega
  have hk8 : Kept (· = k) w W8 := hk.thenB' hb
  have m1 := h.map.same (hk8.block m h.map.lt (fun e => h.km e.symm))
  have hl := h.ok.held_len
  obtain ⟨w9, hrun, hm, hk2⟩ := m1.store hr (t := x) ⟨by omega, by omega⟩ hn (by unfold maxLen; omega)
  refine ⟨w9, hrun, ⟨h.ok.opened i hx, (h.hb.kept hk8 h.bk).kept hk2 h.bm, (hT.below hb).kept hk2 h.km, ?_⟩, ?_, hk2⟩
  · have e1 : (F.opened i x).t.held.length = F.t.held.length + 1 := held_opened hi hs
    rw [e1]
    refine hm.congr fun x' y z _ => ?_
    rw [Fb.look_opened h.ok hi hs]; rfl
  · exact (hk8.mono fun g _ e => .inr (.inl e)).trans (hk2.mono fun g _ e => .inr (.inr e))
set_option maxHeartbeats 1000000 in
set_option maxRecDepth 100000 in
theorem fopen_yes (b k m x i : Nat) (r : List Nat) (F : Fb) (hx : x ≤ 65535) (hf : F.t.free = i :: r) (w : World) (h : FW w b k m F) : Calls Tryz.prog 185 #[.pointer (some ⟨b, 0, none⟩), .int .i64 x] w fun e w' => e = .returned (.tuple #[.agg #[.int .i64 1, .int .i64 i, .int .u32 (F.t.g i)], .int .i64 0]) ∧ FW w' b k m (F.opened i x) ∧ Kept (FFoot b k m) w w' := by
  obtain ⟨hi, hs⟩ := Tb.free_lt hf
  have hc := h.c0
  have hkl := h.tab.bt
  have hml := h.map.lt
  have h0 := fun g hg => h.foot_lt (g := g) hg
  have hz1 := h.ok.t.gm i
  have hz0 := h.ok.hi
  obtain ⟨z, hz⟩ : ∃ z, F.t.g i = z := ⟨_, rfl⟩
  have TK : Hid (∀ W, Below w.heap.size w W → Calls Tryz.prog 188 #[.pointer (some ⟨k, 0, none⟩)] W fun e w' => e = .returned (.tuple #[.agg #[.int .i64 i, .int .u32 z], .int .i64 0]) ∧ Hid (TabW w' k (F.t.took i)) ∧ Kept (· = k) W w') := fun W hW => by
    refine (take_ok k F.t W (h.below hW).tab).mono ?_
    rintro e w' ⟨rfl, h1, h2⟩
    have e1 : F.t.take = F.t.took i := by unfold Tb.take; rw [hf]
    have e2 : F.t.tI = i := by unfold Tb.tI; rw [hf]
    have e3 : F.t.tG = z := by unfold Tb.tG; rw [hf]; exact hz
    have e4 : F.t.tE = 0 := by unfold Tb.tE; rw [hf]
    rw [e1] at h1
    exact ⟨by rw [e2, e3, e4], h1, h2⟩
  have UP : Hid (∀ W W5 W8 : World, Below w.heap.size w W → TabW W5 k (F.t.took i) → Kept (· = k) W W5 → Below W5.heap.size W5 W8 → W8.cell? ⟨b, 1, none⟩ = some (.map (some m)) ∧ ∃ w9, (Instr.mapUpdate 151 (.map (some m)) (.agg #[.int .i64 1, .int .i64 i, .int .u32 z]) (.int .i64 x)).run Tryz.prog W8.drew = .ok () w9 ∧ Hid (FW w9 b k m (F.opened i x) ∧ Kept (FFoot b k m) w w9) ∧ Kept (· = m) W8 w9) := fun W W5 W8 hW hT hk hb => by
    have := fopen_fin (h.below hW) hx hi hs hT hk (bel_drew hb)
    rw [hz] at this
    obtain ⟨w9, e1, e2, e3, e4⟩ := this
    refine ⟨?_, w9, e1, ⟨e2, (Kept.of_below hW).trans e3⟩, ⟨e4.os, e4.tape, e4.output, e4.size, e4.block⟩⟩
    have := ((h.below hW).hb.kept hk h.bk).below hb
    exact this.cell 1
  have hx' : ¬ 65535 < (x : Int) := by omega
  have hx'' : ¬ (x : Int) < 0 := by omega
  rw [hz] at hz1 ⊢
  have hin : i ≤ 64 := by omega
  clear h hf hz hi hs hz0
  go_enter Tryz.func185, Tryz.ntmps185
  go_wp2_with (first
    | (go_at_call 168; refine (fvalid_yes _ k _ (cell_keeps ((Below.refl _ w).alloc (Nat.le_refl _) _) hc)).mono ?_; rintro e w' ⟨rfl, rfl⟩; have hq := cell_keeps ((Below.refl _ w).alloc (Nat.le_refl _) (.cells #[.int .i64 0, .int .i64 0, .int .u32 0] 25)) hc)
    | (go_at_call 188; refine (TK.out _ ((Below.refl _ w).alloc (Nat.le_refl _) _)).mono ?_; rintro e w5 ⟨rfl, HT, hk5⟩; have HN := Lib.hid ((Bk.new w 25 #[.int .i64 0, .int .i64 0, .int .u32 0]).kept hk5 (by omega)); have HK := Lib.hid hk5; clear hk5)
    | (go_at_call 170; refine (file_ok _ _ _ (by omega) (by omega) (by omega) (by omega)).mono ?_; rintro e w7 ⟨rfl, hb7⟩; have HB7 := Lib.hid ((Below.refl _ w5).alloc (Nat.le_refl _) _ |>.trans (hb7.mono (by simp))); clear hb7))
  have hlw7 : w5.heap.size ≤ w7.heap.size := HB7.out.size
  have hl5 : w.heap.size < w5.heap.size := HN.out.lt
  obtain ⟨hm1, w9, hrun, HF, hk9⟩ := UP.out _ w5 (w7.alloc (.cells #[.int .i64 1, .int .i64 i, .int .u32 z] 25)) ((Below.refl _ w).alloc (Nat.le_refl _) _) HT.out HK.out (HB7.out.alloc (by omega) _)
  have hB := Bk.new w7 25 #[.int .i64 1, .int .i64 i, .int .u32 z]
  have o0 : (w7.alloc (.cells #[.int .i64 1, .int .i64 i, .int .u32 z] 25)).cell? ⟨w7.heap.size, 0, none⟩ = some (.int .i64 1) := hB.cell 0
  have o1 : (w7.alloc (.cells #[.int .i64 1, .int .i64 i, .int .u32 z] 25)).cell? ⟨w7.heap.size, 1, none⟩ = some (.int .i64 i) := hB.cell 1
  have o2 : (w7.alloc (.cells #[.int .i64 1, .int .i64 i, .int .u32 z] 25)).cell? ⟨w7.heap.size, 2, none⟩ = some (.int .u32 z) := hB.cell 2
  have hB9 := hB.kept hk9 (by omega)
  have HN9 := Lib.hid ((((HN.out.below HB7.out).up (.cells #[.int .i64 1, .int .i64 i, .int .u32 z] 25))).kept hk9 (by omega))
  generalize w7.alloc (.cells #[.int .i64 1, .int .i64 i, .int .u32 z] 25) = w8 at *
  clear hB hk9 HT HK HN TK UP hq
  go_region
  have p0 : w9.cell? ⟨w7.heap.size, 0, none⟩ = some (.int .i64 1) := hB9.cell 0
  have p1 : w9.cell? ⟨w7.heap.size, 1, none⟩ = some (.int .i64 i) := hB9.cell 1
  have p2 : w9.cell? ⟨w7.heap.size, 2, none⟩ = some (.int .u32 z) := hB9.cell 2
  have z0 : w9.cell? ⟨w.heap.size, 0, none⟩ = some (.int .i64 0) := HN9.out.cell 0
  have z1 : w9.cell? ⟨w.heap.size, 1, none⟩ = some (.int .i64 0) := HN9.out.cell 1
  have z2 : w9.cell? ⟨w.heap.size, 2, none⟩ = some (.int .u32 0) := HN9.out.cell 2
  have f0 := HN9.out.frozen 0
  have f1 := HN9.out.frozen 1
  have f2 := HN9.out.frozen 2
  clear hB9 hrun
  go_wp2
  obtain ⟨hF, hK⟩ := HF.out
  obtain ⟨hN, hK6⟩ := put3 HN9.out (.int .i64 1) (.int .i64 i) (.int .u32 z)
  have hF6 := hF.kept hK6 (fun g hg e => by have := h0 g hg; omega)
  have hK7 := keep_new hK hK6
  exact open_ret hN rfl rfl rfl ⟨rfl, hF6, hK7⟩

/-- What Open says of a table, and what it leaves. -/
def OpenP (b k m : Nat) (F : Fb) (x : Nat) (w : World) (e : Ending) (w' : World) : Prop := e = .returned (.tuple #[.agg #[.int .i64 F.oK, .int .i64 F.oI, .int .u32 F.oG], .int .i64 F.oE]) ∧ FW w' b k m (F.opn x) ∧ Kept (FFoot b k m) w w'
theorem fopen_ok (b k m x : Nat) (F : Fb) (hx : x ≤ 65535) (w : World) (h : FW w b k m F) : Calls Tryz.prog 185 #[.pointer (some ⟨b, 0, none⟩), .int .i64 x] w (OpenP b k m F x w) := by
  rcases hf : F.t.free with _ | ⟨i, r⟩
  · refine (fopen_full b k m x F hx hf w h).mono ?_
    rintro e w' ⟨rfl, h1, h2⟩
    unfold OpenP Fb.oK Fb.oI Fb.oG Fb.oE Fb.opn
    rw [hf]
    exact ⟨rfl, h1, h2⟩
  · refine (fopen_yes b k m x i r F hx hf w h).mono ?_
    rintro e w' ⟨rfl, h1, h2⟩
    unfold OpenP Fb.oK Fb.oI Fb.oG Fb.oE Fb.opn
    rw [hf]
    exact ⟨rfl, h1, h2⟩
end Go.Proofs.YtpinmiplefidpaaGreatDoor.FD

namespace Go.Proofs.YtpinmiplefidpaaGreatDoor.FD
open Go.RowKit

theorem pairs_at : ∀ (l : List (Nat × Nat)) (j : Nat) (r : Nat × Nat), l[j]? = some r → (pairs l)[j * 2]? = some (.int .i64 r.1) ∧ (pairs l)[j * 2 + 1]? = some (.int .u32 r.2)
  | [], j, r, h => by simp at h
  | a :: l, 0, r, h => by
    simp at h; subst h
    simp [pairs]
  | a :: l, j + 1, r, h => by
    simp at h
    have ih := pairs_at l j r h
    have e : pairs (a :: l) = .int .i64 a.1 :: .int .u32 a.2 :: pairs l := rfl
    have e1 : (j + 1) * 2 = j * 2 + 1 + 1 := by omega
    rw [e, e1, List.getElem?_cons_succ, List.getElem?_cons_succ, List.getElem?_cons_succ, List.getElem?_cons_succ]
    exact ih

/-- The slice value v reads as the references l. -/
def Sr (w : World) (v : Value) (l : List (Nat × Nat)) : Prop :=
  ∃ a c, v = .slice a l.length c ∧ (0 < l.length → ∃ g cur, a = some ⟨g, 0, none⟩ ∧ Bk w g 193 cur ∧ ∀ j r, l[j]? = some r → cur[j * 2]? = some (.int .i64 r.1) ∧ cur[j * 2 + 1]? = some (.int .u32 r.2))
theorem Sr.below {w w' : World} {v : Value} {l : List (Nat × Nat)} (h : Sr w v l) (hb : Below w.heap.size w w') : Sr w' v l := by
  obtain ⟨a, c, e, h⟩ := h
  refine ⟨a, c, e, fun h0 => ?_⟩
  obtain ⟨g, cur, e2, hg, hc⟩ := h h0
  exact ⟨g, cur, e2, hg.below hb, hc⟩
theorem Sr.kept {w w' : World} {v : Value} {l : List (Nat × Nat)} {b : Nat} {T : Tb} (h : Sr w v l) (k : Kept (· = b) w w') (ht : TabW w b T) : Sr w' v l := by
  obtain ⟨a, c, e, h⟩ := h
  refine ⟨a, c, e, fun h0 => ?_⟩
  obtain ⟨g, cur, e2, hg, hc⟩ := h h0
  have hn : g ≠ b := by rintro rfl; exact absurd (hg.uniq ht.bk).1 (by decide)
  exact ⟨g, cur, e2, hg.kept k hn, hc⟩
theorem Sr.of_own {w : World} {b : Nat} {v : Value} {l : List (Nat × Nat)} (h : w.ownsRow b 193 2 v l.length (pairs l)) : Sr w v l := by
  rcases h.2 with ⟨rfl, h0⟩ | ⟨g, cap, cur, rfl, h1, h2, h3, h4, h5, h6⟩
  · have : l = [] := List.eq_nil_of_length_eq_zero h0
    subst this
    exact ⟨none, 0, rfl, fun h => by simp at h⟩
  · refine ⟨_, cap, rfl, fun _ => ⟨g, cur, rfl, h2, fun j r hj => ?_⟩⟩
    have hjl : j < l.length := (List.getElem?_eq_some_iff.1 hj).1
    have := pairs_at l j r hj
    rw [← h6, List.getElem?_take_of_lt (by omega), List.getElem?_take_of_lt (by omega), Array.getElem?_toList, Array.getElem?_toList] at this
    exact this
theorem Sr.at {w : World} {a : Option Addr} {n c : Nat} {l : List (Nat × Nat)} (h : Sr w (.slice a n c) l) {j : Nat} {r : Nat × Nat} (hj : l[j]? = some r) : ∃ g, a = some ⟨g, 0, none⟩ ∧ g < w.heap.size ∧ w.cell? ⟨g, j * 2, none⟩ = some (.int .i64 r.1) ∧ w.cell? ⟨g, j * 2 + 1, none⟩ = some (.int .u32 r.2) := by
  obtain ⟨a', c', e, h⟩ := h
  injection e with e1 e2 e3
  subst e1
  have hjl : j < l.length := (List.getElem?_eq_some_iff.1 hj).1
  obtain ⟨g, cur, e2, hg, hc⟩ := h (by omega)
  exact ⟨g, e2, hg.lt, by rw [hg.cell]; exact (hc j r hj).1, by rw [hg.cell]; exact (hc j r hj).2⟩
theorem Sr.len {w : World} {v : Value} {l : List (Nat × Nat)} (h : Sr w v l) : ∃ a c, v = .slice a l.length c := by
  obtain ⟨a, c, e, _⟩ := h
  exact ⟨a, c, e⟩

/-- Taken, told by what its slice reads as. -/
def TkS (l : List (Nat × Nat)) (w : World) (e : Ending) (w' : World) : Prop := ∃ a c, e = .returned (.slice a l.length c) ∧ Sr w' (.slice a l.length c) l ∧ Below w.heap.size w w'
theorem taken_s (b : Nat) (T : Tb) (w : World) (h : TabW w b T) : Calls Tryz.prog 169 #[.pointer (some ⟨b, 0, none⟩)] w (TkS T.now w) := by
  refine (taken_ok b T w h).mono ?_
  rintro e w' ⟨v, rfl, h1, _, h3⟩
  have hs := Sr.of_own h1
  obtain ⟨a, c, rfl⟩ := hs.len
  exact ⟨a, c, rfl, hs, h3⟩


/-! ### one resource more -/
theorem ocls_snoc (l : List Ro) (r : Ro) : ocls (l ++ [r]) = ocls l ++ r.cl := by rw [ocls_append]; simp [ocls]
theorem own_form {w : World} {base : Nat} {v : Value} {l : List Ro} (h : w.ownsRow base 25 3 v l.length (ocls l)) : ∃ p c, v = .slice p l.length c := by
  rcases h.2 with ⟨rfl, h0⟩ | ⟨g', cap, cur, rfl, _⟩
  · exact ⟨_, _, by rw [h0]⟩
  · exact ⟨_, _, rfl⟩
/-- What a slice of one's own is behind an append of one. -/
def AppO (base : Nat) (l : List Ro) (r : Ro) (v : Value) (w : World) (v' : Value) (w' : World) : Prop :=
  w'.ownsRow base 25 3 v' (l ++ [r]).length (ocls (l ++ [r])) ∧ Kept (fun g => v.ownBlock = some g) w w'
theorem app_o {W : World} {base x n : Nat} {p : Option Addr} {c : Nat} {l : List Ro} {r : Ro} (hn : l.length = n) (ho : W.ownsRow base 25 3 (.slice p n c) l.length (ocls l)) (hx : Bk W x 25 r.cl.toArray) (hl : l.length ≤ 1000) (hb : base ≤ W.heap.size) :
    ∃ p' c' W', (Builtin.append_ #[51, 51] 51 #[.slice p n c, .slice (some ⟨x, 0, none⟩) 1 1]).run Tryz.prog W = .ok (.slice p' (n + 1) c') W' ∧ AppO base l r (.slice p n c) W (.slice p' (n + 1) c') W' := by
  subst hn
  obtain ⟨j0, hj, hy0, hy1, hy2⟩ := info_parts info_out
  obtain ⟨v', W', hr, hown, hgr, _⟩ := run_append_own (P := Tryz.prog) (w := W) base 51 51 25 j0 _ 3 24 Tryz.underlying51 hj hy0 hy1 hy2 rfl (by decide) (.slice p l.length c) l.length (ocls l) ho
    ⟨x, 0, none⟩ 1 1 r.cl rfl (fun j u hj => by
      have e : (⟨x, 0, none⟩ : Addr).add j = ⟨x, j, none⟩ := by unfold Addr.add; split <;> simp_all
      rw [e, hx.cell]
      simpa using hj) (Ro.cl_one r) (by unfold maxLen; omega) (by omega) hb
  have ho2 : W'.ownsRow base 25 3 v' (l ++ [r]).length (ocls (l ++ [r])) := by
    rw [ocls_snoc, List.length_append]; exact hown
  obtain ⟨p', c', rfl⟩ := own_form ho2
  have e1 : (l ++ [r]).length = l.length + 1 := by simp
  refine ⟨p', c', W', by rw [← e1]; exact hr, by rw [← e1]; exact ho2, ⟨hgr.os, hgr.tape, hgr.output, hgr.size, fun k hk hs => hgr.block k hk fun e => hs e.symm⟩⟩

theorem wpList_app_o {w : World} {ops : Array Oper} {rest : List Oper} {o : Oper} {a : Act} {Q : Exit → Act → World → Prop} (hgd : o.guard = none) (s x : Operand)
    (ho : o.op = .call { callee := .builtin .append, args := #[s, x], argTypes := #[51, 51] }) {base n g : Nat} {p : Option Addr} {c : Nat} {l : List Ro} (r : Ro) (hs : a.eval s = .slice p n c) (hx : a.eval x = .slice (some ⟨g, 0, none⟩) 1 1)
    (hn : l.length = n) (hown : w.ownsRow base 25 3 (.slice p n c) l.length (ocls l)) (hg : Bk w g 25 r.cl.toArray) (hl : l.length ≤ 1000) (hb : base ≤ w.heap.size)
    (h : ∀ p' c' w', Hid (AppO base l r (.slice p n c) w (.slice p' (n + 1) c') w') → wpList Tryz.prog ops Q rest (a.put o.dst (.slice p' (n + 1) c')) w') : wpList Tryz.prog ops Q (o :: rest) a w := by
  subst hn
  obtain ⟨j0, hj, hy0, hy1, hy2⟩ := info_parts info_out
  refine wpList_append_own _ hgd s x 51 ho base 25 j0 _ 3 24 Tryz.underlying51 hj hy0 hy1 hy2 rfl (by decide) _ _ _ hs hown ⟨g, 0, none⟩ 1 1 r.cl hx rfl (fun j u hj => by
      have e : (⟨g, 0, none⟩ : Addr).add j = ⟨g, j, none⟩ := by unfold Addr.add; split <;> simp_all
      rw [e, hg.cell]
      simpa using hj) (Ro.cl_one r) (by unfold maxLen; omega) (by omega) hb fun v' w' h5 h6 _ => ?_
  have ho2 : w'.ownsRow base 25 3 v' (l ++ [r]).length (ocls (l ++ [r])) := by
    rw [ocls_snoc, List.length_append]; exact h5
  obtain ⟨p', c', rfl⟩ := own_form ho2
  have e1 : (l ++ [r]).length = l.length + 1 := by simp
  rw [e1]
  refine h p' c' w' ⟨by rw [← e1]; exact ho2, ⟨h6.os, h6.tape, h6.output, h6.size, fun k hk hs => h6.block k hk fun e => hs e.symm⟩⟩

/-! ### All -/
/-- A new slice that holds l. -/
def NewO (l : List Ro) (w : World) (e : Ending) (w' : World) : Prop :=
  ∃ p c, e = .returned (.slice p l.length c) ∧ w'.ownsRow w.heap.size 25 3 (.slice p l.length c) l.length (ocls l) ∧ Below w.heap.size w w'
set_option maxRecDepth 100000 in
theorem fall_no (p : Option Addr) (w : World) (h : FInv w p) : Calls Tryz.prog 166 #[.pointer p] w fun e w' => e = .returned (.slice none 0 0) ∧ w = w' := by
  have H := Lib.hid h
  clear h
  go_enter Tryz.func166, Tryz.ntmps166
  go_wp2_with (go_at_call 168; refine (fvalid_no _ _ H.out).mono ?_; rintro e w' ⟨rfl, rfl⟩)
  go_ret
  exact ⟨rfl, rfl⟩
theorem Fb.all_take {F : Fb} {j : Nat} {r : Nat × Nat} (h : F.t.now[j]? = some r) : F.all.take (j + 1) = F.all.take j ++ [fro r] := by
  have : F.all[j]? = some (fro r) := by simp [Fb.all, h]
  rw [List.take_add_one, this]; rfl
set_option maxHeartbeats 2000000 in
set_option maxRecDepth 100000 in
theorem fall_ok (b k m : Nat) (F : Fb) (w : World) (h : FW w b k m F) : Calls Tryz.prog 166 #[.pointer (some ⟨b, 0, none⟩)] w (NewO F.all w) := by
  have hc := h.c0
  have TK := Lib.hid (taken_s k F.t w h.tab)
  have hN := h.ok.held_len
  rw [← F.all_len] at hN
  have hM : F.t.now.length = F.all.length := by rw [F.all_len, Tb.now_len]
  have HR : Hid (∀ r ∈ F.t.now, r.1 ≤ 256 ∧ r.2 ≤ 4294967295) := fun r hr => by
    have h1 := Tb.mem_now.1 hr
    have h2 := h.ok.hi
    have h3 := h.ok.t.gm r.1
    omega
  have HT : Hid (∀ j r, F.t.now[j]? = some r → F.all.take (j + 1) = F.all.take j ++ [fro r]) := fun j r => Fb.all_take
  clear h
  generalize F.t.now = L at *
  generalize F.all = A at *
  go_enter Tryz.func166, Tryz.ntmps166
  go_wp2_with (first
    | (go_at_call 168; refine (fvalid_yes _ _ _ hc).mono ?_; rintro e w' ⟨rfl, rfl⟩)
    | (go_at_call 169; refine TK.out.mono ?_; rintro e w1 ⟨a, c, rfl, hs, hb⟩; have HS := Lib.hid hs; have HB := Lib.hid hb; clear hs hb))
  clear hc TK
  generalize hn : L.length = n at *
  have O0 : Hid (w1.ownsRow w1.heap.size 25 3 (.slice none 0 0) (A.take 0).length (ocls (A.take 0))) := World.ownsRow_nil _ _ _ _
  go_loopw [3, 15] (fun v i wr => ∃ j p q, j ≤ n ∧ v = .slice p j q ∧ i = .int .i64 j ∧ Hid (wr.ownsRow w1.heap.size 25 3 (.slice p j q) (A.take j).length (ocls (A.take j))) ∧ Hid (Below w1.heap.size w1 wr)) (fun _ i _ => n - (intOf i).toNat)
  case atStart => exact ⟨0, none, 0, Nat.zero_le _, rfl, rfl, O0.out, Below.refl _ _⟩
  case round =>
    clear O0
    obtain ⟨j, p, q, hj, rfl, rfl, HO, HW⟩ := hrel
    by_cases hlt : j < n
    · obtain ⟨r, hr⟩ : ∃ r, L[j]? = some r := ⟨_, List.getElem?_eq_getElem (by omega)⟩
      obtain ⟨g, rfl, hg, c0, c1⟩ := (HS.out.below HW.out).at hr
      obtain ⟨h1, h2⟩ := HR.out r (List.mem_of_getElem? hr)
      have ht := HT.out j r hr
      have HH := Lib.hid ht
      clear hr ht
      obtain ⟨i, y⟩ := r
      simp only at h1 h2 c0 c1
      have hb1 : w1.heap.size ≤ wr.heap.size := HW.out.size
      have hb0 : w.heap.size ≤ w1.heap.size := HB.out.size
      go_wp2_with (first
        | (go_at_call 170; refine (file_ok _ _ _ (by omega) (by omega) (by omega) (by omega)).mono ?_; rintro e w7 ⟨rfl, hb7⟩; have HB7 := Lib.hid (bel2 ((Below.refl _ wr).alloc (Nat.le_refl _) _) hb7); clear hb7)
        | (at_builtin; refine wpList_app_o rfl _ _ rfl ⟨1, i, y⟩ rfl rfl ?c1 ((own_below HO.out HB7.out).alloc _) (Bk.new w7 25 #[.int .i64 1, .int .i64 i, .int .u32 y]) ?c2 ?c3 ?_))
      case c1 => rw [List.length_take]; omega
      case c2 => rw [List.length_take]; omega
      case c3 => have := HB7.out.size; simp; omega
      intro p' c' w8 HA
      have HF : Hid (w8.ownsRow w1.heap.size 25 3 (.slice p' (j + 1) c') (A.take (j + 1)).length (ocls (A.take (j + 1))) ∧ Below w1.heap.size w1 w8) := by
        have h8 := HA.out
        unfold AppO at h8
        rw [← show (A.take (j + 1)) = A.take j ++ [⟨1, i, y⟩] from HH.out] at h8
        refine ⟨h8.1, (HW.out.trans (HB7.out.mono hb1)).trans ?_⟩
        have hbk : Below w7.heap.size w7 (w7.alloc (.cells #[.int .i64 1, .int .i64 i, .int .u32 y] 25)) := (Below.refl _ _).alloc (Nat.le_refl _) _
        refine (hbk.mono (Nat.le_trans hb1 HB7.out.size)).trans ?_
        exact h8.2.below (by have := HB7.out.size; simp; omega) fun g e => ((own_below HO.out HB7.out).lt g e).1
      clear HA
      go_wp2
      go_roundw
      case rel => exact ⟨j + 1, p', c', by omega, rfl, by go_num, HF.out.1, HF.out.2⟩
      case measure => simp [intOf]; omega
    · obtain rfl : j = n := by omega
      go_wp2
      go_ret
      have e1 : A.take j = A := List.take_of_length_le (by omega)
      have := HO.out
      rw [e1] at this
      rw [hM] at *
      exact ⟨p, q, rfl, own_lower this HB.out.size, HB.out.trans (HW.out.mono HB.out.size)⟩
end Go.Proofs.YtpinmiplefidpaaGreatDoor.FD

namespace Go.Proofs
open Go.Shelf
def Tryz.laysMapClone_ren : Go.Shelf.Ren := ⟨fun | 5 => 193 | 7 => 195 | n => n, fun | 23 => 151 | 25 => 25 | 3 => 3 | 4 => 4 | 20 => 20 | n => n, fun | n => n⟩
theorem Tryz.laysMapClone : Go.Proofs.SlLaysW.n5 Tryz.prog Tryz.laysMapClone_ren := {
  mixed := by kernel_rfl
  f5 := ⟨Tryz.f193.name, by decide, Tryz.func193.trans (congrArg some (by kernel_rfl))⟩
  f7 := Tryz.func195.trans (congrArg some (by kernel_rfl))
  t4 := Tryz.underlying4
  a4 := Tryz.isAgg4
  z4 := Tryz.sizeOf4
  v4 := Tryz.zeroValue4
  t20 := Tryz.underlying20
  a20 := Tryz.isAgg20
  z20 := Tryz.sizeOf20
  v20 := Tryz.zeroValue20
  t23 := Tryz.underlying151
  a23 := Tryz.isAgg151
  z23 := Tryz.sizeOf151
  v23 := Tryz.zeroValue151 }
end Go.Proofs

namespace Go.Proofs.YtpinmiplefidpaaGreatDoor.FD
open Go.RowKit

theorem mclone_ok (m n : Nat) (T : Lk) (w : World) (h : MapW w m n T) : Calls Tryz.prog 193 #[.map (some m)] w fun e w' => ∃ m', e = .returned (.map (some m')) ∧ MapW w' m' n T ∧ w.heap.size ≤ m' ∧ Below w.heap.size w w' := by
  obtain ⟨D, h1, h2, h3⟩ := h
  refine (AnyW.maps_Clone_owns Tryz.laysMapClone _ _ m n D w h1).mono ?_
  rintro e w' ⟨rfl, k1, _, k2⟩
  exact ⟨_, rfl, ⟨D, k1, h2, h3⟩, Nat.le_refl _, k2⟩

/-! ### Copy -/
set_option maxRecDepth 100000 in
theorem fcopy_no (p : Option Addr) (w : World) (h : FInv w p) : Calls Tryz.prog 187 #[.pointer p] w fun e w' => e = .returned (.pointer none) ∧ w = w' := by
  have H := Lib.hid h
  clear h
  go_enter Tryz.func187, Tryz.ntmps187
  go_wp2_with (go_at_call 168; refine (fvalid_no _ _ H.out).mono ?_; rintro e w' ⟨rfl, rfl⟩)
  go_ret
  exact ⟨rfl, rfl⟩
theorem fcopy_fin {w W : World} {F : Fb} {k' m' : Nat} (hF : F.Ok) (hB : Below w.heap.size w W) (hT : TabW W k' F.t) (hm : MapW W m' F.t.held.length F.look) (hk : w.heap.size ≤ k') (hle : w.heap.size ≤ m') :
    FNew F w W.heap.size (W.alloc (.cells #[.pointer (some ⟨k', 0, none⟩), .map (some m')] 153)) := by
  refine ⟨k', m', ⟨hF, Bk.new W _ _, hT.same (Below.heap_alloc _ _ _ hT.bt), hm.same (Below.heap_alloc _ _ _ hm.lt)⟩, ?_, bel_alloc hB _⟩
  rintro g (rfl | rfl | rfl)
  · exact hB.size
  · exact hk
  · exact hle
set_option maxHeartbeats 4000000 in
set_option maxRecDepth 100000 in
theorem fcopy_ok (b k m : Nat) (F : Fb) (w : World) (h : FW w b k m F) : Calls Tryz.prog 187 #[.pointer (some ⟨b, 0, none⟩)] w fun e w' => ∃ b', e = .returned (.pointer (some ⟨b', 0, none⟩)) ∧ Hid (FNew F w b' w') := by
  have hc := h.c0
  have hc1 := h.c1
  have hF := h.ok
  have MC : Hid (∀ W, Below w.heap.size w W → Calls Tryz.prog 193 #[.map (some m)] W fun e w' => ∃ m', e = .returned (.map (some m')) ∧ MapW w' m' F.t.held.length F.look ∧ w.heap.size ≤ m' ∧ Below w.heap.size w w' ∧ Below W.heap.size W w') := fun W hB =>
    (mclone_ok m F.t.held.length F.look W (h.below hB).map).mono fun e w' ⟨m', h1, h2, h3, h4⟩ => ⟨m', h1, h2, Nat.le_trans hB.size h3, hB.trans (h4.mono hB.size), h4⟩
  have SC : Hid (∀ W, Below w.heap.size w W → Calls Tryz.prog 192 #[.pointer (some ⟨k, 0, none⟩)] W fun e w' => ∃ k', e = .returned (.pointer (some ⟨k', 0, none⟩)) ∧ TabW w' k' F.t ∧ w.heap.size ≤ k' ∧ Below w.heap.size w w' ∧ Below W.heap.size W w') := fun W hB =>
    (copy_ok k F.t W (h.below hB).tab).mono fun e w' ⟨h1, h2, h3⟩ => ⟨_, h1, h2, hB.size, hB.trans (h3.mono hB.size), h3⟩
  have FIN : Hid (∀ W k' m', Below w.heap.size w W → TabW W k' F.t → MapW W m' F.t.held.length F.look → w.heap.size ≤ k' → w.heap.size ≤ m' → FNew F w W.heap.size (W.alloc (.cells #[.pointer (some ⟨k', 0, none⟩), .map (some m')] 153))) := fun W k' m' h1 h2 h3 h4 h5 => fcopy_fin hF h1 h2 h3 h4 h5
  have HZ : Hid (∀ W, Below w.heap.size w W → W.cell? ⟨b, 0, none⟩ = some (.pointer (some ⟨k, 0, none⟩)) ∧ W.cell? ⟨b, 1, none⟩ = some (.map (some m))) := fun W hB => ⟨(h.below hB).c0, (h.below hB).c1⟩
  have b0 : Hid (Below w.heap.size w w.drew) := bel_drew (Below.refl _ _)
  clear h hF
  go_enter Tryz.func187, Tryz.ntmps187
  go_wp2_with (go_at_call 168; refine (fvalid_yes _ _ _ hc).mono ?_; rintro e w' ⟨rfl, rfl⟩)
  go_region_held3 (fun W => W.cell? ⟨b, 0, none⟩ = some (.pointer (some ⟨k, 0, none⟩)) ∧ W.cell? ⟨b, 1, none⟩ = some (.map (some m))) (first | (exact ⟨hc, hc1⟩) | (with_reducible exact hz1) | (with_reducible exact hz2) | (with_reducible exact hz3 _)) (first
    | (go_at_call 193; (with_reducible refine (MC.out _ b0.out).mono ?_); rintro e w2 ⟨m', rfl, hm, hle, hB, hb⟩; have HM := Lib.hid (And.intro hm (And.intro hle hB)); have hz1 := HZ.out w2 hB; clear hm hle hB hb)
    | (go_at_call 192; (with_reducible refine (SC.out _ b0.out).mono ?_); rintro e w2 ⟨k', rfl, hs, hle, hB, hb⟩; have HS := Lib.hid (And.intro hs (And.intro hle hB)); have hz1 := HZ.out w2 hB; clear hs hle hB hb)
    | (go_at_call 192; (with_reducible refine (SC.out _ HM.out.2.2).mono ?_); rintro e w3 ⟨k', rfl, hs, hle, hB, hb⟩; have HF := Lib.hid (FIN.out w3 k' m' hB hs (HM.out.1.same (hb.block m' HM.out.1.lt)) hle HM.out.2.1); have hz2 := HZ.out w3 hB; have hz3 := fun x => HZ.out (w3.alloc x) (hB.alloc hB.size _); clear hs hle hB hb HM hz1)
    | (go_at_call 193; (with_reducible refine (MC.out _ HS.out.2.2).mono ?_); rintro e w3 ⟨m', rfl, hm, hle, hB, hb⟩; have HF := Lib.hid (FIN.out w3 k' m' hB (HS.out.1.same (hb.block k' HS.out.1.bt)) hm HS.out.2.1 hle); have hz2 := HZ.out w3 hB; have hz3 := fun x => HZ.out (w3.alloc x) (hB.alloc hB.size _); clear hm hle hB hb HS hz1))
  all_goals
    clear hz3
    go_wp2
    go_ret
    exact ⟨_, rfl, HF⟩

/-! ### slices.Equal -/
end Go.Proofs.YtpinmiplefidpaaGreatDoor.FD

namespace Go.Proofs.YtpinmiplefidpaaGreatDoor.FD
open Go.RowKit

/-- A table of the program's, in memory that was made since w0. -/
structure FSt (w0 w : World) (b k m : Nat) (F : Fb) : Prop where
  f : FW w b k m F
  bel : Below w0.heap.size w0 w
  lo : ∀ g, FFoot b k m g → w0.heap.size ≤ g
section
variable {w0 w w' : World} {b k m : Nat} {F G : Fb}
theorem FSt.quiet (h : FSt w0 w b k m F) (q : Below w.heap.size w w') : FSt w0 w' b k m F := ⟨h.f.below q, bel2 h.bel q, h.lo⟩
theorem FSt.step (h : FSt w0 w b k m F) (q : Kept (FFoot b k m) w w') (hf : FW w' b k m G) : FSt w0 w' b k m G :=
  ⟨hf, h.bel.trans (q.below h.bel.size h.lo), h.lo⟩
theorem FSt.new (h : FNew F w b w') : ∃ k m, FSt w w' b k m F := by
  obtain ⟨k, m, h1, h2, h3⟩ := h
  exact ⟨k, m, h1, h3, h2⟩
/-- A block of resources is no part of a table. -/
theorem FW.box {A : Nat} {t : TypeId} {cs : Array Value} (h : FW w b k m F) (hA : Bk w A t cs) (ht1 : t ≠ 153) (ht2 : t ≠ 210) : ¬ FFoot b k m A := by
  rintro (rfl | rfl | rfl)
  · exact ht1 (hA.uniq h.hb).1
  · exact ht2 (hA.uniq h.tab.bk).1
  · exact h.map.no_cells hA
theorem FSt.box {A : Nat} {cs : Array Value} (h : FSt w0 w b k m F) (hA : Bk w A 25 cs) (q : Kept (FFoot b k m) w w') : Bk w' A 25 cs := hA.kept q (h.f.box hA (by decide) (by decide))
/-- A slice that owns its row. -/
def RowO (w : World) (v : Value) (l : List Ro) : Prop := ∃ base, w.ownsRow base 25 3 v l.length (ocls l)
theorem RowO.rd {v : Value} {l : List Ro} (h : RowO w v l) : RdO w v l := by obtain ⟨_, h⟩ := h; exact RdO.of_own h
theorem RowO.below {v : Value} {l : List Ro} (h : RowO w v l) (q : Below w.heap.size w w') : RowO w' v l := by obtain ⟨_, h⟩ := h; exact ⟨_, own_below h q⟩
theorem RowO.kept {v : Value} {l : List Ro} (h : RowO w v l) (f : FW w b k m F) (q : Kept (FFoot b k m) w w') : RowO w' v l := by
  obtain ⟨base, h⟩ := h
  refine ⟨base, own_same h fun g hg => ?_⟩
  rcases h.2 with ⟨rfl, _⟩ | ⟨g', cap, cur, rfl, _, h2, _⟩
  · cases hg
  · obtain rfl : g' = g := by simpa [Value.ownBlock] using hg
    have hb : Bk w g' 25 cur := h2
    exact q.block g' hb.lt (f.box hb (by decide) (by decide))
/-- Open, at what it answers. -/
theorem open_s (x : Nat) (K I G E : Int) (h : FSt w0 w b k m F) (hx : x ≤ 65535) (e1 : (F.oK : Int) = K) (e2 : (F.oI : Int) = I) (e3 : (F.oG : Int) = G) (e4 : F.oE = E) : Calls Tryz.prog 185 #[.pointer (some ⟨b, 0, none⟩), .int .i64 x] w fun e w' =>
    e = .returned (.tuple #[.agg #[.int .i64 K, .int .i64 I, .int .u32 G], .int .i64 E]) ∧ Hid (FSt w0 w' b k m (F.opn x)) ∧ Hid (Kept (FFoot b k m) w w') := by
  refine (fopen_ok b k m x F hx w h.f).mono ?_
  rintro e w' ⟨rfl, h1, h2⟩
  exact ⟨by rw [e1, e2, e3, e4], h.step h2 h1, h2⟩
theorem close_s (x y z E : Int) (h : FSt w0 w b k m F) (hr : RgO x y z) (e : F.chk x y z = E) : Calls Tryz.prog 186 #[.pointer (some ⟨b, 0, none⟩), .agg #[.int .i64 x, .int .i64 y, .int .u32 z]] w fun e w' =>
    e = .returned (.int .i64 E) ∧ Hid (FSt w0 w' b k m (F.closed x y z)) ∧ Hid (Kept (FFoot b k m) w w') := by
  refine (fclose_ok b k m F x y z hr w h.f).mono ?_
  rintro e w' ⟨rfl, h1, h2⟩
  exact ⟨by rw [e], h.step h2 h1, h2⟩
theorem all_s (l : List Ro) (h : FSt w0 w b k m F) (e : F.all = l) : Calls Tryz.prog 166 #[.pointer (some ⟨b, 0, none⟩)] w fun e w' =>
    ∃ p c, e = .returned (.slice p l.length c) ∧ Hid (RowO w' (.slice p l.length c) l) ∧ Hid (FSt w0 w' b k m F) ∧ Hid (Below w.heap.size w w') := by
  refine (fall_ok b k m F w h.f).mono ?_
  rintro e' w' ⟨p, c, rfl, h1, h2⟩
  subst e
  exact ⟨p, c, rfl, ⟨_, h1⟩, h.quiet h2, h2⟩
end
/-- What stands in one block, read as a slice. -/
theorem RdO.lit {w : World} {g : Nat} {l : List Ro} {cs : Array Value} (hg : Bk w g 25 cs) (hc : cs = (ocls l).toArray) (hl : l.length ≤ 1000) : RdO w (.slice (some ⟨g, 0, none⟩) l.length l.length) l :=
  ⟨_, _, rfl, Nat.le_refl _, by omega, fun e => (by cases e), fun _ => ⟨g, 0, rfl, hg.lt, fun j x hj => by
    rw [Nat.zero_add, hg.cell, hc]; simpa using hj⟩⟩
theorem ob_cells {w : World} {A : Nat} {x y z : Value} (h : Bk w A 25 #[x, y, z]) : w.cell? ⟨A, 0, none⟩ = some x ∧ w.cell? ⟨A, 1, none⟩ = some y ∧ w.cell? ⟨A, 2, none⟩ = some z ∧ A < w.heap.size := ⟨h.cell 0, h.cell 1, h.cell 2, h.lt⟩

theorem cells3 {w : World} {A : Nat} {x y z : Value} (h : Bk w A 25 #[x, y, z]) : w.cell? ⟨A, 0, none⟩ = some x ∧ w.cell? ⟨A, 1, none⟩ = some y ∧ w.cell? ⟨A, 2, none⟩ = some z := ⟨h.cell 0, h.cell 1, h.cell 2⟩
end Go.Proofs.YtpinmiplefidpaaGreatDoor.FD
