/- The layer H, joined. -/
import Derived.Test.YtpinmiplefidpaaGreatDoorMS
import Derived.Maps.OwnRows
import Derived.WideKeyEntry
import Derived.WalkKit
import Derived.WalkSpells
import Derived.WalkLawsBesides
import Derived.Lib.Hide
import Derived.Lib.SliceRun
import Derived.Laws.Rows
import Derived.Laws.AppendOwn
import Derived.Laws.AppendOwnNone
import Derived.Maps.AppendAt
import Derived.Maps.Views
import Derived.DeepKeys4
import Derived.Deep.AppendLies
import Derived.Deep.QuietTactic
import Derived.BigQuiet
import Derived.BigFrame
import Derived.OwnWalk
import Derived.Deep.RegionLaw
import Derived.IntWalk
import Derived.Deep.RegionWith
import Derived.Deep.RegionHeld3
import Derived.Deep.RegionHeldLaw
import Derived.Lib.AppendZeros
import Derived.StillTailTactics
import Derived.RangeFuncNested
import Derived.RangeFuncBound
import Derived.RangeFuncBox
import Derived.RangeFuncCalls
import Derived.RangeFuncLeaves
import Derived.Shelf.Abstract
import Derived.Shelf.RegionOpen
import Derived.BigFrameIn
import Derived.OwnWalkIn
import Derived.TacticsInMore
import Derived.LoopNIn
import Derived.LoopIn
import Derived.Laws.ResultCell
namespace Go.Proofs.YtpinmiplefidpaaGreatDoor.LG
open Go.Lib

/-- An attempt: its time, its resource (kind, number, generation), why, the answer. -/
structure Att where
  t : Int
  k : Int
  i : Int
  g : Int
  y : Int
  n : Int
deriving DecidableEq
/-- Its numbers fit their types. -/
structure Att.Rg (a : Att) : Prop where
  t0 : -9223372036854775808 ≤ a.t
  t1 : a.t ≤ 9223372036854775807
  k0 : -9223372036854775808 ≤ a.k
  k1 : a.k ≤ 9223372036854775807
  i0 : -9223372036854775808 ≤ a.i
  i1 : a.i ≤ 9223372036854775807
  g0 : 0 ≤ a.g
  g1 : a.g ≤ 4294967295
  y0 : -9223372036854775808 ≤ a.y
  y1 : a.y ≤ 9223372036854775807
  n0 : -9223372036854775808 ≤ a.n
  n1 : a.n ≤ 9223372036854775807
/-- It is valid. -/
structure Att.Ok (a : Att) : Prop where
  t0 : 0 ≤ a.t
  t1 : a.t ≤ 1099511627776
  k0 : 1 ≤ a.k
  k1 : a.k ≤ 3
  i0 : 0 ≤ a.i
  i1 : a.i < 64
  g0 : 1 ≤ a.g
  g1 : a.g ≤ 4294967295
  y0 : 1 ≤ a.y
  y1 : a.y ≤ 3
  n0 : 1 ≤ a.n
  n1 : a.n ≤ 3
theorem Att.Ok.rg {a : Att} (h : a.Ok) : a.Rg := by
  obtain ⟨h1, h2, h3, h4, h5, h6, h7, h8, h9, h10, h11, h12⟩ := h
  constructor <;> omega
theorem Att.ok_or (a : Att) : a.Ok ∨ ¬ a.Ok := Classical.em _
def AllOk (l : List Att) : Prop := ∀ a ∈ l, a.Ok
def AllRg (l : List Att) : Prop := ∀ a ∈ l, a.Rg
theorem AllOk.rg {l : List Att} (h : AllOk l) : AllRg l := fun a ha => (h a ha).rg
theorem allOk_append {l m : List Att} : AllOk (l ++ m) ↔ AllOk l ∧ AllOk m := by
  unfold AllOk
  constructor
  · intro h; exact ⟨fun a ha => h a (by simp [ha]), fun a ha => h a (by simp [ha])⟩
  · rintro ⟨h1, h2⟩ a ha
    rcases List.mem_append.1 ha with ha | ha
    · exact h1 a ha
    · exact h2 a ha
theorem allOk_nil : AllOk [] := fun _ h => by cases h
theorem allOk_one {a : Att} : AllOk [a] ↔ a.Ok := by unfold AllOk; simp
theorem allRg_append {l m : List Att} : AllRg (l ++ m) ↔ AllRg l ∧ AllRg m := by
  unfold AllRg
  constructor
  · intro h; exact ⟨fun a ha => h a (by simp [ha]), fun a ha => h a (by simp [ha])⟩
  · rintro ⟨h1, h2⟩ a ha
    rcases List.mem_append.1 ha with ha | ha
    · exact h1 a ha
    · exact h2 a ha
theorem allRg_one {a : Att} : AllRg [a] ↔ a.Rg := by unfold AllRg; simp
theorem allOk_take {l : List Att} {k : Nat} (h : k < l.length) (hl : AllOk (l.take k)) (ha : l[k].Ok) : AllOk (l.take (k + 1)) := by
  rw [List.take_succ_eq_append_getElem h]
  exact allOk_append.2 ⟨hl, allOk_one.2 ha⟩

/-! ### texts -/
def whyW (y : Int) : List UInt8 := if y = 1 then [99, 108, 111, 115, 101] else if y = 2 then [101, 120, 112, 105, 114, 121] else [99, 111, 108, 108, 101, 99, 116]
def ansW (n : Int) : List UInt8 := if n = 1 then [111, 107] else if n = 2 then [108, 97, 116, 101, 114] else [102, 97, 105, 108]

theorem whyW_mem {x : UInt8} {y : Int} (h : x ∈ whyW y) : 97 ≤ x.toNat ∧ x.toNat ≤ 122 := by
  have h1 : ∀ x ∈ ([99, 108, 111, 115, 101] : List UInt8), 97 ≤ x.toNat ∧ x.toNat ≤ 122 := by decide
  have h2 : ∀ x ∈ ([101, 120, 112, 105, 114, 121] : List UInt8), 97 ≤ x.toNat ∧ x.toNat ≤ 122 := by decide
  have h3 : ∀ x ∈ ([99, 111, 108, 108, 101, 99, 116] : List UInt8), 97 ≤ x.toNat ∧ x.toNat ≤ 122 := by decide
  unfold whyW at h
  split at h
  · exact h1 x h
  · split at h
    · exact h2 x h
    · exact h3 x h
theorem ansW_mem {x : UInt8} {y : Int} (h : x ∈ ansW y) : 97 ≤ x.toNat ∧ x.toNat ≤ 122 := by
  have h1 : ∀ x ∈ ([111, 107] : List UInt8), 97 ≤ x.toNat ∧ x.toNat ≤ 122 := by decide
  have h2 : ∀ x ∈ ([108, 97, 116, 101, 114] : List UInt8), 97 ≤ x.toNat ∧ x.toNat ≤ 122 := by decide
  have h3 : ∀ x ∈ ([102, 97, 105, 108] : List UInt8), 97 ≤ x.toNat ∧ x.toNat ≤ 122 := by decide
  unfold ansW at h
  split at h
  · exact h1 x h
  · split at h
    · exact h2 x h
    · exact h3 x h
theorem whyW_inj {a b : Int} (ha : 1 ≤ a) (ha' : a ≤ 3) (hb : 1 ≤ b) (hb' : b ≤ 3) (h : whyW a = whyW b) : a = b := by
  have h1 : a = 1 ∨ a = 2 ∨ a = 3 := by omega
  have h2 : b = 1 ∨ b = 2 ∨ b = 3 := by omega
  rcases h1 with rfl | rfl | rfl <;> rcases h2 with rfl | rfl | rfl <;> first | rfl | (exact absurd h (by decide))
theorem ansW_inj {a b : Int} (ha : 1 ≤ a) (ha' : a ≤ 3) (hb : 1 ≤ b) (hb' : b ≤ 3) (h : ansW a = ansW b) : a = b := by
  have h1 : a = 1 ∨ a = 2 ∨ a = 3 := by omega
  have h2 : b = 1 ∨ b = 2 ∨ b = 3 := by omega
  rcases h1 with rfl | rfl | rfl <;> rcases h2 with rfl | rfl | rfl <;> first | rfl | (exact absurd h (by decide))
theorem whyW_len (y : Int) : 5 ≤ (whyW y).length ∧ (whyW y).length ≤ 7 := by unfold whyW; split; simp; split <;> simp
theorem ansW_len (y : Int) : 2 ≤ (ansW y).length ∧ (ansW y).length ≤ 5 := by unfold ansW; split; simp; split <;> simp
theorem why_ne {m : UInt8} (hm : m.toNat < 48) (y : Int) : ∀ x ∈ whyW y, x ≠ m := by
  rintro x hx rfl
  have := whyW_mem hx
  omega
theorem ans_ne {m : UInt8} (hm : m.toNat < 48) (y : Int) : ∀ x ∈ ansW y, x ≠ m := by
  rintro x hx rfl
  have := ansW_mem hx
  omega

/-! ### what a text reads as -/

/-! ### what is told of a resource -/
/-- The attempt is one for the resource. -/
def Att.is (a : Att) (k i g : Int) : Bool := decide (a.k = k ∧ a.i = i ∧ a.g = g)
/-- The attempts for a resource. -/
def ofL (l : List Att) (k i g : Int) : List Att := l.filter fun a => a.is k i g
/-- Their places, counted from b on. -/
def plF (b : Nat) : List Att → Int → Int → Int → List Nat
  | [], _, _, _ => []
  | a :: l, k, i, g => if a.is k i g then b :: plF (b + 1) l k i g else plF (b + 1) l k i g
def pl (l : List Att) (k i g : Int) : List Nat := plF 0 l k i g
theorem plF_append (b : Nat) (l m : List Att) (k i g : Int) : plF b (l ++ m) k i g = plF b l k i g ++ plF (b + l.length) m k i g := by
  induction l generalizing b with
  | nil => simp [plF]
  | cons a l ih =>
    simp only [List.cons_append, plF, List.length_cons]
    rw [ih, show b + 1 + l.length = b + (l.length + 1) by omega]
    split <;> simp
theorem pl_snoc (l : List Att) (a : Att) (k i g : Int) : pl (l ++ [a]) k i g = pl l k i g ++ (if a.is k i g then [l.length] else []) := by
  unfold pl
  rw [plF_append]
  simp [plF]
theorem plF_len (b : Nat) (l : List Att) (k i g : Int) : (plF b l k i g).length = (ofL l k i g).length := by
  induction l generalizing b with
  | nil => rfl
  | cons a l ih =>
    have ih := ih (b + 1)
    unfold ofL at ih
    simp only [plF, ofL, List.filter_cons]
    split
    · simp [ih]
    · exact ih
theorem pl_len (l : List Att) (k i g : Int) : (pl l k i g).length = (ofL l k i g).length := plF_len 0 l k i g
theorem plF_at (b : Nat) (l : List Att) (k i g : Int) (j : Nat) (h : j < (plF b l k i g).length) : ∃ p, (plF b l k i g)[j] = b + p ∧ ∃ hp : p < l.length, ∃ hj : j < (ofL l k i g).length, l[p] = (ofL l k i g)[j] := by
  induction l generalizing b j with
  | nil => simp [plF] at h
  | cons a l ih =>
    by_cases ha : a.is k i g
    · have e1 : plF b (a :: l) k i g = b :: plF (b + 1) l k i g := by simp [plF, ha]
      have e2 : ofL (a :: l) k i g = a :: ofL l k i g := by simp [ofL, ha]
      cases j with
      | zero => exact ⟨0, by simp [e1], by simp, by simp [e2], by simp [e2]⟩
      | succ j =>
        have h' : j < (plF (b + 1) l k i g).length := by rw [e1] at h; simpa using h
        obtain ⟨p, h1, h2, h3, h4⟩ := ih (b + 1) j h'
        exact ⟨p + 1, by simp only [e1, List.getElem_cons_succ, h1]; omega, by simp; omega, by rw [e2]; simp; omega, by simp [e2, h4]⟩
    · have e1 : plF b (a :: l) k i g = plF (b + 1) l k i g := by simp [plF, ha]
      have e2 : ofL (a :: l) k i g = ofL l k i g := by simp [ofL, ha]
      have h' : j < (plF (b + 1) l k i g).length := by rw [e1] at h; exact h
      obtain ⟨p, h1, h2, h3, h4⟩ := ih (b + 1) j h'
      exact ⟨p + 1, by simp only [e1, h1]; omega, by simp; omega, by rw [e2]; exact h3, by simp [e2, h4]⟩
theorem pl_at (l : List Att) (k i g : Int) (j : Nat) (h : j < (pl l k i g).length) : ∃ hp : (pl l k i g)[j] < l.length, ∃ hj : j < (ofL l k i g).length, l[(pl l k i g)[j]] = (ofL l k i g)[j] := by
  obtain ⟨p, h1, h2, h3, h4⟩ := plF_at 0 l k i g j h
  have e : (pl l k i g)[j] = p := by unfold pl; omega
  exact ⟨by omega, h3, by simp only [e]; exact h4⟩
theorem ofL_snoc (l : List Att) (a : Att) (k i g : Int) : ofL (l ++ [a]) k i g = ofL l k i g ++ (if a.is k i g then [a] else []) := by
  simp [ofL, List.filter_append, List.filter_cons]
theorem ofL_le (l : List Att) (k i g : Int) : (ofL l k i g).length ≤ l.length := List.length_filter_le _ _
theorem ofL_sub {l : List Att} {k i g : Int} {a : Att} (h : a ∈ ofL l k i g) : a ∈ l := (List.mem_filter.1 h).1
/-- The zero attempt. -/
def att0 : Att := ⟨0, 0, 0, 0, 0, 0⟩
/-- The first attempt of a list, and whether there is one. -/
def firstOf (l : List Att) : Att := l.headD att0
/-- The first answer that is not 'later'. -/
def endOf (l : List Att) : Int := match l.find? (fun a => decide (a.n ≠ 2)) with | some a => a.n | none => 0
def isEnd (l : List Att) : Bool := (l.find? (fun a => decide (a.n ≠ 2))).isSome
end Go.Proofs.YtpinmiplefidpaaGreatDoor.LG

namespace Go.Proofs.YtpinmiplefidpaaGreatDoor.LG
open Go.ChangeMaps Go.MapKept Go.ChangeShapes Go.RowKit
open Go.WideElems (Fit rd rg pl rd_val elemAt findIdx_born findIdx_arr modify_last set_self)
open Go.Maps (Keyed)
open Go.WideMaps (KeyLaw)


/-- Block g is the row of one of the map's elements. -/
def gfoot (w : World) (b g : Nat) : Prop := ∃ es clock, w.heap[b]? = some (.map es clock) ∧ ∃ x ∈ es.toList, x.val.ownBlock = some g

section
variable {H : Type} {P : Program} {w : World} {k e : TypeId} {q : IntKind} {base b n : Nat} {D : DataW H}

theorem fit_owned {es : Array MapEntry} {clock : Nat} (F : Fit P k (rowElem (H := H) w base e q) es clock) : ∀ x ∈ es.toList, ∃ zs, w.ownsInts base e q x.val zs := fun x hx => by
  obtain ⟨y, hy⟩ := F.reads x hx
  obtain ⟨z, hz, _⟩ := rd_val hy
  obtain ⟨zs, ho, _⟩ := rowElem_inv hz
  exact ⟨zs, ho⟩
theorem gfoot_lt (h : w.ownsGroups (H := H) P k base e q b n D) {g : Nat} (hg : gfoot w b g) : base ≤ g ∧ g < w.heap.size := by
  obtain ⟨es, clock, hb, F, _⟩ := h
  obtain ⟨es', clock', hb', x, hx, hxg⟩ := hg
  rw [hb] at hb'
  injection hb' with hb'
  injection hb' with h1 h2
  subst h1
  obtain ⟨zs, ho⟩ := fit_owned F x hx
  exact ho.1.lt g hxg
/-- The row of an element is a row of integers. -/
theorem gfoot_type (h : w.ownsGroups (H := H) P k base e q b n D) {g : Nat} (hg : gfoot w b g) : ∃ cs, w.heap[g]? = some (.cells cs e (0, 0)) := by
  obtain ⟨es, clock, hb, F, _⟩ := h
  obtain ⟨es', clock', hb', x, hx, hxg⟩ := hg
  rw [hb] at hb'
  injection hb' with hb'
  injection hb' with h1 h2
  subst h1
  obtain ⟨zs, ho⟩ := fit_owned F x hx
  rcases ho.1.2 with ⟨e1, _⟩ | ⟨g', cap, cur, e1, _, h3, _⟩
  · rw [e1] at hxg; cases hxg
  · rw [e1] at hxg
    obtain rfl : g' = g := by simpa [Value.ownBlock] using hxg
    exact ⟨cur, h3⟩
theorem groups_same (h : w.ownsGroups (H := H) P k base e q b n D) {w' : World} (hb : w'.heap[b]? = w.heap[b]?) (hr : ∀ g, gfoot w b g → w'.heap[g]? = w.heap[g]?) : w'.ownsGroups (H := H) P k base e q b n D ∧ ∀ g, gfoot w' b g ↔ gfoot w b g := by
  obtain ⟨es, clock, hb0, F, hs, rfl, hbb, hlen, hap⟩ := h
  have keep : ∀ x ∈ es.toList, ∀ zs, w.ownsInts base e q x.val zs → w'.ownsInts base e q x.val zs := fun x hx zs ho =>
    ⟨own_same ho.1 fun g hg => hr g ⟨es, clock, hb0, x, hx, hg⟩, ho.2⟩
  have hs2 : ∀ x ∈ es.toList, ∀ z, rowElem (H := H) w base e q x.val = some z → rowElem w' base e q x.val = some z := by
    intro x hx z hz
    obtain ⟨ys, ho, rfl⟩ := rowElem_inv hz
    exact rowElem_mk (keep x hx _ ho)
  obtain ⟨F2, hmap2, _⟩ := F.stay hs2
  refine ⟨⟨es, clock, hb.trans hb0, F2, hs, by rw [hmap2], hbb, fun x hx zs ho => ?_, hap⟩, fun g => ?_⟩
  · obtain ⟨ys, hy⟩ := fit_owned F x hx
    rw [ho.unique (keep x hx _ hy)]
    exact hlen x hx ys hy
  · unfold gfoot
    rw [hb]

/-- The entry at a key, found or made; what is stored into it: in whatever world that holds the map. -/
theorem entry_all {R : Value → Option (DataW H × List MemPlace)} {t E : TypeId} {es : Array MapEntry} {clock : Nat} (K : KeyLaw P k) (ht : P.underlying t = some (.map k E)) {z : Value} (hz : ∀ u : World, (zeroValue E).run P u = .ok z u) (F : Fit P k R es clock)
    {key : Value} {kl : Lit} (hkey : keyOf P k key = some kl) :
    ∃ (v0 : Value) (st : Nat) (es1 : Array MapEntry) (clock1 : Nat), (∀ W : World, W.heap[b]? = some (.map es clock) → (Instr.mapEntry t (.map (some b)) key).run P W = .ok (.tuple #[v0, goInt st]) (setBlock W b (.map es1 clock1))) ∧
      ((∃ e0 ∈ es.toList, e0.key = key ∧ v0 = e0.val) ∨ ((∀ x ∈ es.toList, x.key ≠ key) ∧ v0 = z)) ∧
      ∀ val : Value, ∃ es' clock', (∀ W : World, W.heap[b]? = some (.map es1 clock1) → (Instr.entryStore t (.map (some b)) (goInt st) val).run P W = .ok () (setBlock W b (.map es' clock'))) ∧
        ∀ W : World, W.heap[b]? = some (.map es clock) → (Instr.mapUpdate t (.map (some b)) key val).run P W = .ok () (setBlock W b (.map es' clock')) := by
  obtain ⟨s1, s2, s3⟩ := F.stamped
  rcases K.find (default : World) hkey es.toList F.keys with ⟨h1, h2⟩ | ⟨j, e0, h1, h2, h3⟩
  · have find : ∀ W, (Instr.findKey k key es.toList).run P W = .ok none W := fun W => by
      rcases K.find W hkey es.toList F.keys with ⟨h, _⟩ | ⟨j, e0, _, h4, h5⟩
      · exact h
      · exact absurd h5 (h2 e0 (List.mem_of_getElem? h4))
    refine ⟨z, clock, es.push ⟨key, z, clock⟩, clock + 1, fun W hb => ?_, Or.inr ⟨h2, rfl⟩, fun val => ⟨es.push ⟨key, val, clock⟩, clock + 1, fun W hb => ?_, fun W hb => ?_⟩⟩
    · simp [Instr.mapEntry, run_underlying ht, MapKept.run_getObj_map hb, K.check W false hkey, find W, hz, MapKept.run_setObj_map _ hb, Result.andThen, setBlock]
    · have hidx : (es.push ⟨key, z, clock⟩).findIdx? (fun e => ((e.born : Nat) : Int) == ((clock : Nat) : Int)) = some es.size := by
        rw [findIdx_arr]
        have := findIdx_born (l := (es.push ⟨key, z, clock⟩).toList) (j := es.size) (e0 := ⟨key, z, clock⟩) (by
          simp only [Array.toList_push, List.map_append, List.map_cons, List.map_nil]
          refine List.nodup_append.2 ⟨s2, by simp, fun a ha c hc e1 => ?_⟩
          simp only [List.mem_singleton] at hc
          obtain ⟨x, hx, rfl⟩ := List.mem_map.1 ha
          have := s1 x hx
          omega) (by simp)
        exact this
      have hmod : (es.push ⟨key, z, clock⟩).modify es.size (fun e => { e with val := val }) = es.push ⟨key, val, clock⟩ := by
        apply Array.ext'
        rw [Array.toList_modify, Array.toList_push, Array.toList_push, ← Array.length_toList, modify_last]
      simp [Instr.entryStore, MapKept.run_getObj_map hb, asInt, asIntOf, goInt, hidx, hmod, MapKept.run_setObj_map _ hb, Result.andThen, setBlock]
    · simp [Instr.mapUpdate, run_underlying ht, MapKept.run_getObj_map hb, K.check W false hkey, find W, MapKept.run_setObj_map _ hb, Result.andThen, setBlock]
  · have hj : es[j]? = some e0 := by simpa using h2
    have find : ∀ W, (Instr.findKey k key es.toList).run P W = .ok (some (j, e0.val)) W := fun W => by
      rcases K.find W hkey es.toList F.keys with ⟨_, h⟩ | ⟨j', e', h4, h5, h6⟩
      · exact absurd h3 (h e0 (List.mem_of_getElem? h2))
      · have hjl : j < (es.toList.map (·.key)).length := by rw [List.length_map]; exact (List.getElem?_eq_some_iff.1 h2).1
        have e1 : j = j' := (List.getElem?_inj hjl s3).1 (by rw [List.getElem?_map, List.getElem?_map, h2, h5]; simp [h3, h6])
        subst e1
        rw [h5] at h2
        rw [h4, Option.some.inj h2]
    have hsame : es.modify j (fun e => { e with key := key }) = es := by
      apply Array.ext'
      rw [Array.toList_modify, modify_eq_set _ _ _ _ h2]
      have : ({ e0 with key := key } : MapEntry) = e0 := by rw [← h3]
      rw [this]
      exact set_self _ _ _ h2
    refine ⟨e0.val, e0.born, es, clock, fun W hb => ?_, Or.inl ⟨e0, List.mem_of_getElem? h2, h3, rfl⟩, fun val => ⟨es.modify j (fun e' => { e' with key := key, val := val }), clock, fun W hb => ?_, fun W hb => ?_⟩⟩
    · simp [Instr.mapEntry, run_underlying ht, MapKept.run_getObj_map hb, K.check W false hkey, find W, hj, h3, K.stays W hkey, hsame, MapKept.run_setObj_map _ hb, Result.andThen, setBlock]
    · have hidx : es.findIdx? (fun e => ((e.born : Nat) : Int) == ((e0.born : Nat) : Int)) = some j := by
        rw [findIdx_arr]
        exact findIdx_born s2 h2
      have hmod : es.modify j (fun e => { e with val := val }) = es.modify j (fun e' => { e' with key := key, val := val }) := by
        apply Array.ext'
        rw [Array.toList_modify, Array.toList_modify, modify_eq_set _ _ _ _ h2, modify_eq_set _ _ _ _ h2, ← h3]
      simp [Instr.entryStore, MapKept.run_getObj_map hb, asInt, asIntOf, goInt, hidx, hmod, MapKept.run_setObj_map _ hb, Result.andThen, setBlock]
    · simp [Instr.mapUpdate, run_underlying ht, MapKept.run_getObj_map hb, K.check W false hkey, find W, hj, h3, K.stays W hkey, MapKept.run_setObj_map _ hb, Result.andThen, setBlock]

theorem setBlock_eq {W : World} {b : Nat} {es es' es'' : Array MapEntry} {c c' c'' : Nat} (hb : W.heap[b]? = some (.map es c)) (h : setBlock W b (.map es' c') = setBlock W b (.map es'' c'')) : es' = es'' ∧ c' = c'' := by
  have h1 := heap_setBlock_same hb (.map es' c')
  rw [h, heap_setBlock_same hb] at h1
  injection h1 with h1
  injection h1 with h2 h3
  exact ⟨h2.symm, h3.symm⟩

/-- One round of the group-by: the entry at a key; whatever is then done to that element's row and to new blocks alone; the store into the entry. -/
theorem groups_entry (KL : KeyLaw P k) {t E : TypeId} (ht : P.underlying t = some (.map k E)) (hz : ∀ u : World, (zeroValue E).run P u = .ok (.slice none 0 0) u) (h : w.ownsGroups (H := H) P k base e q b n D) (hn : n < maxLen) {key : Value} {kl : Lit} (hkey : keyOf P k key = some kl) :
    ∃ (v : Value) (zs : List Int) (st : Nat) (o o1 : Obj), w.heap[b]? = some o ∧ (∀ W : World, W.heap[b]? = some o → (Instr.mapEntry t (.map (some b)) key).run P W = .ok (.tuple #[v, goInt st]) (setBlock W b o1)) ∧ (∀ W : World, W.heap[b]? = some o → (setBlock W b o1).heap[b]? = some o1 ∧ (∀ i, i ≠ b → (setBlock W b o1).heap[i]? = W.heap[i]?)) ∧
      D.atKey kl .nil = rowDatum q v zs ∧ w.ownsInts base e q v zs ∧ zs.length ≤ n ∧ (∀ g, v.ownBlock = some g → gfoot w b g) ∧
      ∀ (w2 : World) (v' : Value) (zs' : List Int), w2.heap[b]? = some o1 → w.heap.size ≤ w2.heap.size → (∀ i, i < w.heap.size → i ≠ b → some i ≠ v.ownBlock → w2.heap[i]? = w.heap[i]?) → w2.ownsInts base e q v' zs' → zs'.length ≤ n + 1 → (v'.ownBlock = v.ownBlock ∨ ∃ g, v'.ownBlock = some g ∧ w.heap.size ≤ g) →
        ∃ w3, (Instr.entryStore t (.map (some b)) (goInt st) v').run P w2 = .ok () w3 ∧ w3.ownsGroups (H := H) P k base e q b (n + 1) (D.put kl (rowDatum q v' zs')) ∧ w2.grownBy w3 (some b) ∧ (∀ g, gfoot w3 b g → gfoot w b g ∨ v'.ownBlock = some g) := by
  obtain ⟨es, clock, hb, F, hs, rfl, hbb, hlen, hap⟩ := h
  have K := Keyed.of_law KL
  have owned := fit_owned F
  obtain ⟨v, st, es1, clock1, hrun, hwhich, hst⟩ := entry_all (b := b) KL ht hz F hkey
  have hlook : ∃ zs, (DataW.map ((es.toList.map (rg P k (rowElem (H := H) w base e q))).foldr DataW.insert [])).atKey kl .nil = rowDatum q v zs ∧ w.ownsInts base e q v zs ∧ zs.length ≤ n := by
    rcases Maps.fit_look false K ht (hz w) hb F hkey with ⟨_, hno, hat⟩ | ⟨e0, y, hm0, h3, _, hR, hat, _⟩
    · rcases hwhich with ⟨e0, h1, h2, _⟩ | ⟨_, rfl⟩
      · exact absurd h2 (hno e0 h1)
      · exact ⟨[], hat _, World.ownsInts_nil _ _ _ _, Nat.zero_le _⟩
    · obtain ⟨zs, ho, rfl⟩ := rowElem_inv hR
      rcases hwhich with ⟨e1, h1, h2, rfl⟩ | ⟨hno, _⟩
      · have : e0 = e1 := by
          obtain ⟨_, _, s3⟩ := F.stamped
          obtain ⟨i, hi, hi2⟩ := List.getElem_of_mem hm0
          obtain ⟨j, hj, hj2⟩ := List.getElem_of_mem h1
          have e1' : i = j := (List.getElem?_inj (by rw [List.length_map]; exact hi) s3).1 (by rw [List.getElem?_map, List.getElem?_map, List.getElem?_eq_getElem hi, List.getElem?_eq_getElem hj]; simp [hi2, hj2, h3, h2])
          subst e1'
          exact hi2.symm.trans hj2
        subst this
        exact ⟨zs, hat _, ho, hlen e0 hm0 zs ho⟩
      · exact absurd h3 (hno e0 hm0)
  obtain ⟨zs, hat, hoi, hzl⟩ := hlook
  have hfoot : ∀ g, v.ownBlock = some g → gfoot w b g := fun g hg => by
    rcases hwhich with ⟨e0, h1, _, rfl⟩ | ⟨_, rfl⟩
    · exact ⟨es, clock, hb, e0, h1, hg⟩
    · cases hg
  have hvx : ∀ x ∈ es.toList, x.key ≠ key → x.val.ownBlock = none ∨ x.val.ownBlock ≠ v.ownBlock := fun x hx hne => by
    rcases hwhich with ⟨e0, h1, h2, rfl⟩ | ⟨_, rfl⟩
    · exact hap x hx e0 h1 (by rw [h2]; exact hne)
    · cases hx' : x.val.ownBlock with
      | none => exact .inl rfl
      | some g => exact .inr (fun h => by cases h)
  refine ⟨v, zs, st, _, .map es1 clock1, hb, hrun, fun W hW => ⟨heap_setBlock_same hW _, fun i hi => heap_setBlock_other hW _ hi⟩, hat, hoi, hzl, hfoot, ?_⟩
  intro w2 v' zs' hb2 hsz hg hown' hl' hloc
  obtain ⟨es', clock', hstore, hupd⟩ := hst v'
  have keep : ∀ x ∈ es.toList, x.key ≠ key → ∀ ys, w.ownsInts base e q x.val ys → w2.ownsInts base e q x.val ys := fun x hx hne ys ho =>
    ⟨own_same ho.1 fun g hxg => hg g (ho.1.lt g hxg).2 (by have := (ho.1.lt g hxg).1; omega) (fun e1 => by
      rcases hvx x hx hne with h | h
      · rw [h] at hxg; cases hxg
      · exact h (by rw [hxg]; exact e1)), ho.2⟩
  have hs1 : ∀ x ∈ es.toList, x.key ≠ key → ∀ z, rowElem (H := H) w base e q x.val = some z → rowElem w2 base e q x.val = some z := by
    intro x hx hne z hz
    obtain ⟨zs, ho, rfl⟩ := rowElem_inv hz
    exact rowElem_mk (keep x hx hne _ ho)
  obtain ⟨es'', clock'', hrun2, F', hput, _, _, hwho⟩ := Maps.fit_store (R' := rowElem w2 base e q) K ht hb F (Nat.lt_of_le_of_lt hs hn) hs1 hkey (rowElem_mk hown')
  have heq : es' = es'' ∧ clock' = clock'' := by
    have h1 := hupd w hb
    rw [hrun2] at h1
    injection h1 with _ h1
    exact setBlock_eq hb h1.symm
  obtain ⟨rfl, rfl⟩ := heq
  have hg2 : w2.grownBy (setBlock w2 b (.map es' clock')) (some b) := ⟨rfl, rfl, rfl, by simp [setBlock], fun i _ hi => heap_setBlock_other hb2 _ (fun e1 => hi (by rw [e1]))⟩
  have own_ne : ∀ {u : Value} {ys : List Int}, w2.ownsInts base e q u ys → u.ownBlock = none ∨ u.ownBlock ≠ some b := fun {u ys} ho => by
    cases hu : u.ownBlock with
    | none => exact Or.inl rfl
    | some g =>
      refine Or.inr (fun e1 => ?_)
      have := (ho.1.lt g hu).1
      cases e1
      omega
  have hs2 : ∀ x ∈ es'.toList, ∀ z, rowElem (H := H) w2 base e q x.val = some z → rowElem (setBlock w2 b (.map es' clock')) base e q x.val = some z := by
    intro x _ z hz
    obtain ⟨ys, ho, rfl⟩ := rowElem_inv hz
    exact rowElem_mk (ho.kept hg2 (own_ne ho))
  obtain ⟨F2, hmap2, _⟩ := F'.stay hs2
  have old_new : ∀ x ∈ es.toList, x.key ≠ key → x.val.ownBlock = none ∨ x.val.ownBlock ≠ v'.ownBlock := by
    intro x hx hne
    rcases hloc with h1 | ⟨g, h1, h2⟩
    · rw [h1]
      exact hvx x hx hne
    · cases hx' : x.val.ownBlock with
      | none => exact Or.inl rfl
      | some gx =>
        obtain ⟨ys, ho⟩ := owned x hx
        have := (ho.1.lt gx hx').2
        refine Or.inr (fun e1 => ?_)
        rw [h1] at e1
        cases e1
        omega
  refine ⟨_, hstore w2 hb2, ⟨es', clock', heap_setBlock_same hb2 _, F2, ?_, ?_, hbb, ?_, ?_⟩, hg2, ?_⟩
  · have e1 : es'.size = ((es'.toList.map (rg P k (rowElem (H := H) w2 base e q))).foldr DataW.insert []).length := by rw [length_sorted]; simp
    rw [e1, hput]
    unfold putKey
    rw [length_insert]
    have e2 := List.length_filter_le (notKey kl) ((es.toList.map (rg P k (rowElem (H := H) w base e q))).foldr DataW.insert [])
    rw [length_sorted] at e2
    simp at e2
    omega
  · rw [hmap2, DataW.put_eq, hput]
  · intro x hx ys ho
    have back : w2.ownsInts base e q x.val ys := by
      obtain ⟨ys', ho'⟩ := fit_owned F' x hx
      rw [ho.unique (ho'.kept hg2 (own_ne ho'))]
      exact ho'
    rcases hwho x hx with ⟨hx0, hne⟩ | ⟨_, hval⟩
    · obtain ⟨ys0, ho0⟩ := owned x hx0
      have := hlen x hx0 ys0 ho0
      rw [back.unique (keep x hx0 hne _ ho0)]
      omega
    · rw [hval] at back
      rw [back.unique hown']
      exact hl'
  · intro x hx y hy hne
    rcases hwho x hx with ⟨hx0, hxk⟩ | ⟨hxk, hxv⟩ <;> rcases hwho y hy with ⟨hy0, hyk⟩ | ⟨hyk, hyv⟩
    · exact hap x hx0 y hy0 hne
    · rw [hyv]
      exact old_new x hx0 hxk
    · rw [hxv]
      cases hv' : v'.ownBlock with
      | none => exact Or.inl rfl
      | some g =>
        refine Or.inr (fun e1 => ?_)
        rcases old_new y hy0 hyk with h | h
        · rw [h] at e1
          cases e1
        · exact h (by rw [hv', e1])
    · exact absurd (hxk.trans hyk.symm) hne
  · rintro g ⟨es3, c3, h3, x, hx, hxg⟩
    rw [heap_setBlock_same hb2] at h3
    injection h3 with h3
    injection h3 with h4 h5
    subst h4
    rcases hwho x hx with ⟨hx0, _⟩ | ⟨_, hval⟩
    · exact .inl ⟨es, clock, hb, x, hx0, hxg⟩
    · exact .inr (by rw [← hval]; exact hxg)
end
end Go.Proofs.YtpinmiplefidpaaGreatDoor.LG

namespace Go.Proofs.YtpinmiplefidpaaGreatDoor.LG
open Go.RowKit Go.ChangeShapes

section
variable {w w' : World} {g : Nat} {t : TypeId} {cs : Array Value}
end

section
variable {S T : Nat → Prop} {a b c w : World}
end



/-! ### attempts in cells -/
def Att.cl (a : Att) : List Value := [.int .i64 a.t, .int .i64 a.k, .int .i64 a.i, .int .u32 a.g, .int .i64 a.y, .int .i64 a.n]
def Att.val (a : Att) : Value := .agg #[.int .i64 a.t, .int .i64 a.k, .int .i64 a.i, .int .u32 a.g, .int .i64 a.y, .int .i64 a.n]
def cls (l : List Att) : List Value := l.flatMap Att.cl
theorem cls_append (l m : List Att) : cls (l ++ m) = cls l ++ cls m := by simp [cls]
theorem cls_cons (a : Att) (l : List Att) : cls (a :: l) = a.cl ++ cls l := by simp [cls]
theorem cls_length (l : List Att) : (cls l).length = l.length * 6 := by
  induction l with
  | nil => rfl
  | cons a l ih => rw [cls_cons, List.length_append, ih, List.length_cons]; simp [Att.cl]; omega
theorem cls_one (l : List Att) : ∀ u ∈ cls l, u.oneCell' = true := by
  intro u hu
  obtain ⟨a, _, h⟩ := List.mem_flatMap.1 hu
  simp only [Att.cl, List.mem_cons, List.not_mem_nil, or_false] at h
  rcases h with rfl | rfl | rfl | rfl | rfl | rfl <;> rfl
theorem cls_take (l : List Att) (n : Nat) : (cls l).take (n * 6) = cls (l.take n) := by
  induction l generalizing n with
  | nil => simp [cls]
  | cons a l ih =>
    cases n with
    | zero => simp [cls]
    | succ n =>
      rw [cls_cons, List.take_succ_cons, cls_cons, List.take_append, ← ih n]
      have e1 : a.cl.length = 6 := rfl
      rw [List.take_of_length_le (by rw [e1]; omega), e1]
      congr 2
      omega
theorem cls_at (l : List Att) (j : Nat) (h : j < l.length) (q : Nat) (hq : q < 6) : (cls l)[j * 6 + q]? = l[j].cl[q]? := by
  induction l generalizing j with
  | nil => simp at h
  | cons a l ih =>
    rw [cls_cons]
    cases j with
    | zero => rw [Nat.zero_mul, Nat.zero_add, List.getElem?_append_left (by simp [Att.cl]; omega)]; rfl
    | succ j =>
      have e1 : a.cl.length = 6 := rfl
      rw [List.getElem?_append_right (by rw [e1]; omega), e1, show (j + 1) * 6 + q - 6 = j * 6 + q by omega, ih j (by simpa using h)]
      rfl

/-! ### slices of attempts -/
/-- The slice value v reads as the attempts l. -/
def RdA (w : World) (v : Value) (l : List Att) : Prop :=
  ∃ a c, v = .slice a l.length c ∧ l.length ≤ c ∧ c ≤ 9223372036854775807 ∧ (a = none → c = 0) ∧ (0 < l.length → ∃ g off, a = some ⟨g, off, none⟩ ∧ g < w.heap.size ∧ ∀ j x, (cls l)[j]? = some x → w.cell? ⟨g, off + j, none⟩ = some x)
section
variable {w w' : World} {v : Value} {l : List Att}
theorem RdA.same (h : RdA w v l) (hs : w.heap.size ≤ w'.heap.size) (e : ∀ g off c n, v = .slice (some ⟨g, off, none⟩) n c → ∀ i, w'.cell? ⟨g, i, none⟩ = w.cell? ⟨g, i, none⟩) : RdA w' v l := by
  obtain ⟨a, c, e0, h1, h2, h3, h4⟩ := h
  refine ⟨a, c, e0, h1, h2, h3, fun h0 => ?_⟩
  obtain ⟨g, off, e2, hg, hc⟩ := h4 h0
  exact ⟨g, off, e2, Nat.lt_of_lt_of_le hg hs, fun j x hj => (e g off c _ (by rw [e0, e2]) _).trans (hc j x hj)⟩
theorem RdA.below (h : RdA w v l) (hb : Below w.heap.size w w') : RdA w' v l := by
  obtain ⟨a, c, e, h1, h2, h3, h4⟩ := h
  refine ⟨a, c, e, h1, h2, h3, fun h0 => ?_⟩
  obtain ⟨g, off, e2, hg, hc⟩ := h4 h0
  exact ⟨g, off, e2, Nat.lt_of_lt_of_le hg hb.size, fun j x hj => (hb.cell (p := ⟨g, off + j, none⟩) hg).trans (hc j x hj)⟩
theorem RdA.nil (w : World) : RdA w (.slice none 0 0) [] := ⟨none, 0, rfl, Nat.le_refl _, by omega, fun _ => rfl, fun h => by simp at h⟩
theorem RdA.len (h : RdA w v l) : ∃ a c, v = .slice a l.length c ∧ RdA w (.slice a l.length c) l := by
  obtain ⟨a, c, e, _⟩ := id h
  subst e
  exact ⟨a, c, rfl, h⟩
theorem RdA.cap {a : Option Addr} {n c : Nat} (h : RdA w (.slice a n c) l) : n = l.length ∧ l.length ≤ c ∧ c ≤ 9223372036854775807 ∧ (a = none → c = 0) := by
  obtain ⟨a', c', e, h1, h2, h3, h4⟩ := h
  injection e with e1 e2 e3
  subst e1 e2 e3
  exact ⟨rfl, h1, h2, h3⟩
/-- The six cells of an attempt at offset o of block g. -/
def Six (w : World) (g o : Nat) (a : Att) : Prop :=
  w.cell? ⟨g, o, none⟩ = some (.int .i64 a.t) ∧ w.cell? ⟨g, o + 1, none⟩ = some (.int .i64 a.k) ∧ w.cell? ⟨g, o + 2, none⟩ = some (.int .i64 a.i) ∧ w.cell? ⟨g, o + 3, none⟩ = some (.int .u32 a.g) ∧ w.cell? ⟨g, o + 4, none⟩ = some (.int .i64 a.y) ∧ w.cell? ⟨g, o + 5, none⟩ = some (.int .i64 a.n)
theorem RdA.cell {a : Option Addr} {n c : Nat} (h : RdA w (.slice a n c) l) {j : Nat} (hj : j < l.length) : ∃ g off, a = some ⟨g, off, none⟩ ∧ g < w.heap.size ∧ Six w g (off + j * 6) l[j] := by
  obtain ⟨a', c', e, h1, h2, h3, h4⟩ := h
  injection e with e1 e2 e3
  subst e1 e2 e3
  obtain ⟨g, off, e2, hg, hc⟩ := h4 (by omega)
  have k : ∀ q, q < 6 → ∀ x, l[j].cl[q]? = some x → w.cell? ⟨g, off + j * 6 + q, none⟩ = some x := fun q hq x hx => by
    rw [Nat.add_assoc]; exact hc _ x ((cls_at l j hj q hq).trans hx)
  exact ⟨g, off, e2, hg, by simpa using k 0 (by omega) _ rfl, k 1 (by omega) _ rfl, k 2 (by omega) _ rfl, k 3 (by omega) _ rfl, k 4 (by omega) _ rfl, k 5 (by omega) _ rfl⟩
theorem RdA.take {a : Option Addr} {n c m : Nat} (h : RdA w (.slice a n c) l) (hm : m ≤ l.length) : RdA w (.slice a m c) (l.take m) := by
  obtain ⟨a', c', e, h1, h2, h3, h4⟩ := h
  injection e with e1 e2 e3
  subst e1 e3
  refine ⟨a, c, by rw [List.length_take, Nat.min_eq_left hm], by rw [List.length_take]; omega, h2, h3, fun h0 => ?_⟩
  rw [List.length_take] at h0
  obtain ⟨g, off, e4, hg, hc⟩ := h4 (by omega)
  refine ⟨g, off, e4, hg, fun j x hj => hc j x ?_⟩
  rw [← cls_take, List.getElem?_take] at hj
  split at hj
  · exact hj
  · cases hj
theorem RdA.of_own {b : Nat} (h : w.ownsRow b 70 6 v l.length (cls l)) : RdA w v l := by
  rcases h.2 with ⟨rfl, h0⟩ | ⟨g, cap, cur, rfl, h1, h2, h3, h4, h5, h6⟩
  · have : l = [] := List.eq_nil_of_length_eq_zero h0
    subst this
    exact RdA.nil w
  · have hg : Bk w g 70 cur := h2
    refine ⟨_, cap, rfl, h3, by unfold maxLen at h4; omega, fun e => (by cases e), fun _ => ⟨g, 0, rfl, hg.lt, fun j x hj => ?_⟩⟩
    have hjl : j < (cls l).length := (List.getElem?_eq_some_iff.1 hj).1
    rw [cls_length] at hjl
    rw [← h6, List.getElem?_take_of_lt (by omega), Array.getElem?_toList] at hj
    rw [Nat.zero_add, hg.cell]; exact hj
end
theorem info_att : (Tryz.prog.info? 70).map (fun i => (i.zero, i.size, i.bytes)) = some (some (.agg #[.int .i64 0, .int .i64 0, .int .i64 0, .int .u32 0, .int .i64 0, .int .i64 0]), 6, 48) := by kernel_rfl
theorem info_int : (Tryz.prog.info? 3).map (fun i => (i.zero, i.size, i.bytes)) = some (some (.int .i64 0), 1, 8) := by kernel_rfl

/-! ### the map of places -/
theorem zeroS (w : World) : (zeroValue 164).run Tryz.prog w = .ok (.slice none 0 0) w := by kernel_rfl
theorem Att.Rg.o {a : Att} (h : a.Rg) : RgO a.k a.i a.g := ⟨h.k0, h.k1, h.i0, h.i1, h.g0, h.g1⟩

/-- What is stored for a resource: its places. -/
def datL (zs : List Int) : DataW Unit := if zs = [] then .nil else .slice (lits .i64 zs) []
def plZ (l : List Att) (k i g : Int) : List Int := (pl l k i g).map fun (j : Nat) => (j : Int)
/-- The map that reads as D knows the places of l. -/
def MapOf (D : DataW Unit) (l : List Att) : Prop :=
  Maps.IsMap D ∧ ∀ k i g kl, RgO k i g → keyOf Tryz.prog 25 (okey k i g) = some kl → D.atKey kl .nil = datL (plZ l k i g)
theorem lits_inj {q : IntKind} {xs ys : List Int} (h : lits (H := Unit) q xs = lits q ys) : xs = ys := by
  unfold lits at h
  exact (List.map_inj_right (fun a b hab => by injection hab with hab; injection hab with h1 h2)).1 h
theorem dat_uniq {w : World} {base : Nat} {e : TypeId} {v : Value} {zs zs' : List Int} (h : w.ownsInts base e .i64 v zs) (he : datL zs' = rowDatum .i64 v zs) : zs = zs' := by
  unfold datL at he
  rcases h.datum (H := Unit) with ⟨h1, h2⟩ | h1
  · rw [h1] at he
    split at he
    · rw [h2]; symm; assumption
    · cases he
  · rw [h1] at he
    split at he
    · cases he
    · injection he with he
      exact (lits_inj he).symm
theorem mapOf_nil : MapOf (.map []) [] := by
  refine ⟨Maps.isMap_empty, fun k i g kl _ _ => ?_⟩
  rfl
theorem is_iff {a : Att} {k i g : Int} : a.is k i g = true ↔ a.k = k ∧ a.i = i ∧ a.g = g := by unfold Att.is; simp
theorem mapOf_put {D : DataW Unit} {l : List Att} {a : Att} {kl : Lit} {v : Value} {w : World} {base : Nat} {e : TypeId} (h : MapOf D l) (_ha : RgO a.k a.i a.g) (hkl : keyOf Tryz.prog 25 (okey a.k a.i a.g) = some kl)
    (hv : w.ownsInts base e .i64 v (plZ l a.k a.i a.g ++ [(l.length : Int)])) : MapOf (D.put kl (rowDatum .i64 v (plZ l a.k a.i a.g ++ [(l.length : Int)]))) (l ++ [a]) := by
  refine ⟨h.1.put _ _, fun k i g kl' hr hkl' => ?_⟩
  by_cases e : a.is k i g
  · obtain ⟨rfl, rfl, rfl⟩ := is_iff.1 e
    rw [hkl] at hkl'
    obtain rfl := Option.some.inj hkl'
    rw [Maps.atKey_put_same h.1 ((Maps.Keyed.of_law lawO).key hkl), hv.datum_pos (by simp)]
    have : plZ (l ++ [a]) a.k a.i a.g = plZ l a.k a.i a.g ++ [(l.length : Int)] := by unfold plZ; rw [pl_snoc, if_pos e]; simp
    rw [this]
    unfold datL
    rw [if_neg (by simp)]
  · have hne : kl ≠ kl' := by
      rintro rfl
      have := okey_inj (lawO.inj hkl hkl')
      exact e (is_iff.2 this)
    rw [Maps.atKey_put_other hne.symm, h.2 k i g kl' hr hkl']
    have : plZ (l ++ [a]) k i g = plZ l k i g := by unfold plZ; rw [pl_snoc, if_neg e]; simp
    rw [this]

/-! ### a ledger of the program's -/
/-- The book in block bk: the attempts l, in a row of its own (value v), and the map of their places in block m; all from block lo on. -/
structure BookW (w : World) (bk m : Nat) (v : Value) (lo : Nat) (l : List Att) : Prop where
  ok : AllOk l
  len : l.length ≤ 10000
  hk : Bk w bk 135 #[v, .map (some m)]
  row : w.ownsRow lo 70 6 v l.length (cls l)
  grp : ∃ D, w.ownsGroups (H := Unit) Tryz.prog 25 (m + 1) 3 .i64 m l.length D ∧ MapOf D l
  lb : lo ≤ bk
  lm : lo ≤ m
/-- The blocks of the book in block bk. -/
def Foot (w : World) (bk g : Nat) : Prop := g = bk ∨ ∃ m v, Bk w bk 135 #[v, .map (some m)] ∧ (g = m ∨ v.ownBlock = some g ∨ gfoot w m g)
section
variable {w w' : World} {bk m lo : Nat} {v : Value} {l : List Att}
theorem BookW.foot (h : BookW w bk m v lo l) {g : Nat} : Foot w bk g ↔ g = bk ∨ g = m ∨ v.ownBlock = some g ∨ gfoot w m g := by
  constructor
  · rintro (e | ⟨m', v', h1, h2⟩)
    · exact .inl e
    · obtain ⟨_, e⟩ := h1.uniq h.hk
      simp only [Array.mk.injEq, List.cons.injEq, Value.map.injEq, Option.some.injEq, and_true] at e
      obtain ⟨rfl, rfl⟩ := e
      exact .inr h2
  · rintro (e | e)
    · exact .inl e
    · exact .inr ⟨m, v, h.hk, e⟩
theorem BookW.foot_le (h : BookW w bk m v lo l) {g : Nat} (hg : Foot w bk g) : lo ≤ g ∧ g < w.heap.size := by
  have hm : m < w.heap.size := by
    obtain ⟨D, ⟨es, clock, hb, _⟩, _⟩ := h.grp
    exact (Array.getElem?_eq_some_iff.1 hb).1
  have h1 := h.lb
  have h2 := h.lm
  rcases h.foot.1 hg with rfl | rfl | e | e
  · exact ⟨h1, h.hk.lt⟩
  · exact ⟨h2, hm⟩
  · exact h.row.lt g e
  · obtain ⟨D, hD, _⟩ := h.grp
    have := gfoot_lt hD e
    omega
/-- Of the rows of attempts the book has one alone. -/
theorem BookW.foot_att (h : BookW w bk m v lo l) {g : Nat} {cs : Array Value} (hg : Foot w bk g) (hb : Bk w g 70 cs) : v.ownBlock = some g := by
  rcases h.foot.1 hg with rfl | rfl | e | e
  · exact absurd (hb.uniq h.hk).1 (by decide)
  · obtain ⟨D, ⟨es, clock, hm, _⟩, _⟩ := h.grp
    unfold Bk at hb
    rw [hm] at hb
    cases hb
  · exact e
  · obtain ⟨D, hD, _⟩ := h.grp
    obtain ⟨cs', hc⟩ := gfoot_type hD e
    exact absurd (hb.uniq (show Bk w g 3 cs' from hc)).1 (by decide)
/-- It stays where its blocks stay. -/
theorem BookW.kept (h : BookW w bk m v lo l) {S : Nat → Prop} (k : Kept S w w') (hs : ∀ g, Foot w bk g → ¬ S g) : BookW w' bk m v lo l ∧ ∀ g, Foot w' bk g ↔ Foot w bk g := by
  have st : ∀ g, Foot w bk g → w'.heap[g]? = w.heap[g]? := fun g hg => k.block g (h.foot_le hg).2 (hs g hg)
  obtain ⟨D, hD, hM⟩ := h.grp
  obtain ⟨hD', hf⟩ := groups_same hD (st m (h.foot.2 (.inr (.inl rfl)))) (fun g hg => st g (h.foot.2 (.inr (.inr (.inr hg)))))
  have h' : BookW w' bk m v lo l := ⟨h.ok, h.len, h.hk.same (st bk (.inl rfl)), own_same h.row fun g hg => st g (h.foot.2 (.inr (.inr (.inl hg)))), ⟨D, hD', hM⟩, h.lb, h.lm⟩
  refine ⟨h', fun g => ?_⟩
  rw [h'.foot, h.foot, hf]
theorem BookW.below (h : BookW w bk m v lo l) (k : Below w.heap.size w w') : BookW w' bk m v lo l ∧ ∀ g, Foot w' bk g ↔ Foot w bk g := h.kept (S := fun _ => False) (Kept.of_below k) (fun _ _ hs => hs)
end
/-- The ledger in block b: its book in block bk. -/
structure LedW (w : World) (b bk lo : Nat) (l : List Att) : Prop where
  hb : Bk w b 138 #[.pointer (some ⟨bk, 0, none⟩)]
  book : ∃ m v, BookW w bk m v lo l
section
variable {w w' : World} {b bk lo : Nat} {l : List Att}
theorem LedW.not_foot (h : LedW w b bk lo l) : ¬ Foot w bk b := by
  intro hf
  obtain ⟨m, v, hB⟩ := h.book
  rcases hB.foot.1 hf with rfl | rfl | e | e
  · exact absurd (h.hb.uniq hB.hk).1 (by decide)
  · obtain ⟨D, ⟨es, clock, hm, _⟩, _⟩ := hB.grp
    have h1 := h.hb
    unfold Bk at h1
    rw [hm] at h1
    cases h1
  · exact absurd (own_type hB.row e h.hb) (by decide)
  · obtain ⟨D, hD, _⟩ := hB.grp
    obtain ⟨cs', hc⟩ := gfoot_type hD e
    exact absurd (h.hb.uniq (show Bk w b 3 cs' from hc)).1 (by decide)
theorem LedW.kept (h : LedW w b bk lo l) {S : Nat → Prop} (k : Kept S w w') (hb : ¬ S b) (hs : ∀ g, Foot w bk g → ¬ S g) : LedW w' b bk lo l ∧ ∀ g, Foot w' bk g ↔ Foot w bk g := by
  obtain ⟨m, v, hB⟩ := h.book
  obtain ⟨h1, h2⟩ := hB.kept k hs
  exact ⟨⟨h.hb.kept k hb, m, v, h1⟩, h2⟩
theorem LedW.below (h : LedW w b bk lo l) (k : Below w.heap.size w w') : LedW w' b bk lo l ∧ ∀ g, Foot w' bk g ↔ Foot w bk g := h.kept (S := fun _ => False) (Kept.of_below k) (fun h => h) (fun _ _ hs => hs)
theorem LedW.foot_le (h : LedW w b bk lo l) {g : Nat} (hg : Foot w bk g) : lo ≤ g ∧ g < w.heap.size := by
  obtain ⟨m, v, hB⟩ := h.book
  exact hB.foot_le hg
theorem LedW.ok (h : LedW w b bk lo l) : AllOk l := by obtain ⟨m, v, hB⟩ := h.book; exact hB.ok
theorem LedW.len (h : LedW w b bk lo l) : l.length ≤ 10000 := by obtain ⟨m, v, hB⟩ := h.book; exact hB.len
end
/-- A ledger that New or Copy did not make: nil, or the zero one. -/
def Inv (w : World) (v : Option Addr) : Prop := v = none ∨ ∃ b, v = some ⟨b, 0, none⟩ ∧ Bk w b 138 #[.pointer none]
theorem Inv.below {w w' : World} {v : Option Addr} (h : Inv w v) (hb : Below w.heap.size w w') : Inv w' v := by
  rcases h with rfl | ⟨b, rfl, h⟩
  · exact .inl rfl
  · exact .inr ⟨b, rfl, h.below hb⟩
/-- A ledger of the document's in block b, its attempts in a row of its own (value v). -/
structure RefW (w : World) (b : Nat) (v : Value) (lo : Nat) (l : List Att) : Prop where
  ok : AllOk l
  len : l.length ≤ 10000
  hb : Bk w b 140 #[.bool true, v]
  row : w.ownsRow lo 70 6 v l.length (cls l)
  lb : lo ≤ b
end Go.Proofs.YtpinmiplefidpaaGreatDoor.LG

namespace Go.Proofs.YtpinmiplefidpaaGreatDoor.LG
open Go.RowKit Go.ChangeShapes

/-- The table of words holds these. -/
structure Words (w : World) (g : Nat) (a b c : List UInt8) : Prop where
  c0 : w.cell? ⟨g, 0, none⟩ = some (.string ⟨#[]⟩)
  c1 : w.cell? ⟨g, 1, none⟩ = some (.string ⟨a.toArray⟩)
  c2 : w.cell? ⟨g, 2, none⟩ = some (.string ⟨b.toArray⟩)
  c3 : w.cell? ⟨g, 3, none⟩ = some (.string ⟨c.toArray⟩)
theorem Words.below {w w' : World} {g : Nat} {a b c : List UInt8} (h : Words w g a b c) (hb : Below w.heap.size w w') : Words w' g a b c :=
  ⟨cell_stays hb h.c0, cell_stays hb h.c1, cell_stays hb h.c2, cell_stays hb h.c3⟩
/-- What the variables that the program reads hold. -/
structure EnvL (w : World) : Prop where
  whys : Words w 0 [99, 108, 111, 115, 101] [101, 120, 112, 105, 114, 121] [99, 111, 108, 108, 101, 99, 116]
  answers : Words w 1 [111, 107] [108, 97, 116, 101, 114] [102, 97, 105, 108]
theorem EnvL.below {w w' : World} (h : EnvL w) (hb : Below w.heap.size w w') : EnvL w' := ⟨h.whys.below hb, h.answers.below hb⟩

/-! ### New -/
theorem size_up (w : World) (o : Obj) : (w.alloc o).heap.size = w.heap.size + 1 := by simp
theorem book_new (w : World) : BookW ((w.alloc (.map #[] 0)).alloc (.cells #[.slice none 0 0, .map (some w.heap.size)] 135)) (w.heap.size + 1) w.heap.size (.slice none 0 0) w.heap.size [] := by
  have hb := Bk.new (w.alloc (.map #[] 0)) 135 #[.slice none 0 0, .map (some w.heap.size)]
  rw [size_up] at hb
  have hB := bel_new (w.alloc (.map #[] 0)) (.cells #[.slice none 0 0, .map (some w.heap.size)] 135)
  have hg := World.ownsGroups_made (H := Unit) w Tryz.prog 25 3 .i64
  have hg2 := groups_same hg (hB.block _ (by simp)) (fun g h => hB.block g (gfoot_lt hg h).2)
  exact ⟨allOk_nil, Nat.zero_le _, hb, World.ownsRow_nil _ _ _ _, ⟨_, hg2.1, mapOf_nil⟩, by omega, Nat.le_refl _⟩
theorem led_new (w : World) : LedW (((w.alloc (.map #[] 0)).alloc (.cells #[.slice none 0 0, .map (some w.heap.size)] 135)).alloc (.cells #[.pointer (some ⟨w.heap.size + 1, 0, none⟩)] 138)) (w.heap.size + 2) (w.heap.size + 1) w.heap.size [] := by
  have hb := Bk.new ((w.alloc (.map #[] 0)).alloc (.cells #[.slice none 0 0, .map (some w.heap.size)] 135)) 138 #[.pointer (some ⟨w.heap.size + 1, 0, none⟩)]
  rw [size_up, size_up] at hb
  exact ⟨hb, _, _, ((book_new w).below (bel_new _ _)).1⟩
def NewL (w : World) (e : Ending) (w' : World) : Prop := e = .returned (.pointer (some ⟨w.heap.size + 2, 0, none⟩)) ∧ LedW w' (w.heap.size + 2) (w.heap.size + 1) w.heap.size [] ∧ Below w.heap.size w w'
set_option maxRecDepth 100000 in
theorem new_ok (w : World) : Calls Tryz.prog 55 #[] w (NewL w) := by
  have hmm := @run_makeMap Tryz.prog
  go_enter Tryz.func55, Tryz.ntmps55
  go_wp2
  go_ret
  exact ⟨rfl, led_new w, ((bel_new w _).alloc (by simp) _).alloc (by simp; omega) _⟩

/-! ### has, Check -/
set_option maxRecDepth 100000 in
theorem has_yes (ws : Value) (n : Int) (w : World) (h : 1 ≤ n ∧ n ≤ 3) (hw : ∃ a b c d, ws = .agg #[a, b, c, d]) : Calls Tryz.prog 103 #[ws, .int .i64 n] w fun e w' => e = .returned (.bool true) ∧ Below w.heap.size w w' := by
  have h1 : 0 < n := by omega
  have h2 : n < 4 := by omega
  obtain ⟨a, b, c, d, rfl⟩ := hw
  go_enter Tryz.func103, Tryz.ntmps103
  go_wp2
  go_ret
  exact ⟨rfl, bel_new _ _⟩
set_option maxRecDepth 100000 in
theorem has_no (ws : Value) (n : Int) (w : World) (h : ¬ (1 ≤ n ∧ n ≤ 3)) (hw : ∃ a b c d, ws = .agg #[a, b, c, d]) : Calls Tryz.prog 103 #[ws, .int .i64 n] w fun e w' => e = .returned (.bool false) ∧ Below w.heap.size w w' := by
  obtain ⟨a, b, c, d, rfl⟩ := hw
  by_cases h1 : 0 < n
  · have h2 : ¬ n < 4 := by omega
    go_enter Tryz.func103, Tryz.ntmps103
    go_wp2
    go_ret
    exact ⟨rfl, bel_new _ _⟩
  · go_enter Tryz.func103, Tryz.ntmps103
    go_wp2
    go_ret
    exact ⟨rfl, bel_new _ _⟩
theorem outI_ok (k i g : Int) (h : 1 ≤ k ∧ k ≤ 3 ∧ 0 ≤ i ∧ i < 64 ∧ 1 ≤ g ∧ g ≤ 4294967295) (w : World) :
    Calls Tryz.prog 43 #[.agg #[.int .i64 k, .int .i64 i, .int .u32 g]] w fun e w' => e = .returned (.int .i64 0) ∧ Below w.heap.size w w' := by
  obtain ⟨a, rfl⟩ : ∃ a : Nat, k = a := ⟨k.toNat, by omega⟩
  obtain ⟨b, rfl⟩ : ∃ a : Nat, i = a := ⟨i.toNat, by omega⟩
  obtain ⟨c, rfl⟩ : ∃ a : Nat, g = a := ⟨g.toNat, by omega⟩
  exact ochk_ok a b c ⟨by omega, by omega, by omega, by omega, by omega⟩ w
theorem outI_bad (k i g : Int) (hr : RgO k i g) (h : ¬ (1 ≤ k ∧ k ≤ 3 ∧ 0 ≤ i ∧ i < 64 ∧ 1 ≤ g ∧ g ≤ 4294967295)) (w : World) :
    Calls Tryz.prog 43 #[.agg #[.int .i64 k, .int .i64 i, .int .u32 g]] w fun e w' => e = .returned (.int .i64 2) ∧ Below w.heap.size w w' := by
  obtain ⟨h1, h2, h3, h4, h5, h6⟩ := hr
  exact ochk_bad k i g ⟨h1, h2, h3, h4, h5, h6⟩ (by unfold Bad; omega) w
open Classical in
/-- The error of Check. -/
noncomputable def chkE (a : Att) : Int := if a.Ok then 0 else 2
theorem chkE_ok {a : Att} (h : a.Ok) : chkE a = 0 := if_pos h
theorem chkE_bad {a : Att} (h : ¬ a.Ok) : chkE a = 2 := if_neg h
def ChkV (a : Att) (w : World) (e : Ending) (w' : World) : Prop := e = .returned (.int .i64 (chkE a)) ∧ Below w.heap.size w w'
set_option maxRecDepth 100000 in
set_option maxHeartbeats 1000000 in
theorem chk_time (a : Att) (h : a.t < 0 ∨ 1099511627776 < a.t) (w : World) (he : EnvL w) : Calls Tryz.prog 48 #[a.val] w (ChkV a w) := by
  have hE : Hid (chkE a = 2) := chkE_bad fun hk => by have := hk.t0; have := hk.t1; omega
  obtain ⟨y0, y1, y2, y3⟩ := he.whys
  obtain ⟨z0, z1, z2, z3⟩ := he.answers
  unfold ChkV Att.val
  generalize chkE a = E at *
  obtain ⟨t, k, i, g, y, n⟩ := a
  by_cases h1 : t < 0
  · go_enter Tryz.func48, Tryz.ntmps48
    go_wp2
    go_ret
    exact ⟨by rw [hE.out]; rfl, bel_new _ _⟩
  · have h2 : 1099511627776 < t := by simp only at h; omega
    go_enter Tryz.func48, Tryz.ntmps48
    go_wp2
    go_ret
    exact ⟨by rw [hE.out]; rfl, bel_new _ _⟩
set_option maxRecDepth 100000 in
set_option maxHeartbeats 1000000 in
theorem chk_in (a : Att) (hr : a.Rg) (ht : 0 ≤ a.t ∧ a.t ≤ 1099511627776) (w : World) (he : EnvL w) : Calls Tryz.prog 48 #[a.val] w (ChkV a w) := by
  obtain ⟨E, hE⟩ : ∃ E, chkE a = E := ⟨_, rfl⟩
  have HB0 := Lib.hid (bel_new w (.cells #[.int .i64 a.t, .int .i64 a.k, .int .i64 a.i, .int .u32 a.g, .int .i64 a.y, .int .i64 a.n] 70))
  have HW := Lib.hid he.whys
  have HA := Lib.hid (he.answers.below HB0.out)
  obtain ⟨y0, y1, y2, y3⟩ := he.whys.below HB0.out
  obtain ⟨z0, z1, z2, z3⟩ := he.answers.below HB0.out
  have HO := Lib.hid hr.o
  obtain ⟨t0, t1⟩ := ht
  unfold ChkV
  rw [hE]
  have HE : Hid (¬ (1 ≤ a.y ∧ a.y ≤ 3) → E = 2) := fun h => by rw [← hE]; exact chkE_bad fun hk => h ⟨hk.y0, hk.y1⟩
  have HE2 : Hid (¬ (1 ≤ a.n ∧ a.n ≤ 3) → E = 2) := fun h => by rw [← hE]; exact chkE_bad fun hk => h ⟨hk.n0, hk.n1⟩
  have HE3 : Hid (¬ (1 ≤ a.k ∧ a.k ≤ 3 ∧ 0 ≤ a.i ∧ a.i < 64 ∧ 1 ≤ a.g ∧ a.g ≤ 4294967295) → E = 2) := fun h => by rw [← hE]; exact chkE_bad fun hk => h ⟨hk.k0, hk.k1, hk.i0, hk.i1, hk.g0, hk.g1⟩
  have HE4 : Hid (1 ≤ a.y ∧ a.y ≤ 3 → 1 ≤ a.n ∧ a.n ≤ 3 → 1 ≤ a.k ∧ a.k ≤ 3 ∧ 0 ≤ a.i ∧ a.i < 64 ∧ 1 ≤ a.g ∧ a.g ≤ 4294967295 → E = 0) := fun ⟨h1, h2⟩ ⟨h3, h4⟩ ⟨h5, h6, h7, h8, h9, h10⟩ => by
    rw [← hE]; exact chkE_ok ⟨by simpa using t0, by simpa using t1, h5, h6, h7, h8, h9, h10, h1, h2, h3, h4⟩
  clear he hr hE
  obtain ⟨t, k, i, g, y, n⟩ := a
  simp only [Att.val] at *
  go_enter Tryz.func48, Tryz.ntmps48
  by_cases cy : 1 ≤ y ∧ y ≤ 3
  · have CY := Lib.hid cy
    clear cy
    go_wp2_with fail
    refine (has_yes _ _ _ CY.out ⟨_, _, _, _, rfl⟩).mono ?_
    rintro e w1 ⟨rfl, hb1⟩
    obtain ⟨z0, z1, z2, z3⟩ := HA.out.below hb1
    obtain ⟨c0, c1, c2, c3, c4, c5⟩ : w1.cell? ⟨w.heap.size, 0, none⟩ = some (.int .i64 t) ∧ w1.cell? ⟨w.heap.size, 1, none⟩ = some (.int .i64 k) ∧ w1.cell? ⟨w.heap.size, 2, none⟩ = some (.int .i64 i) ∧ w1.cell? ⟨w.heap.size, 3, none⟩ = some (.int .u32 g) ∧ w1.cell? ⟨w.heap.size, 4, none⟩ = some (.int .i64 y) ∧ w1.cell? ⟨w.heap.size, 5, none⟩ = some (.int .i64 n) := by
      refine ⟨?_, ?_, ?_, ?_, ?_, ?_⟩ <;> (refine cell_stays hb1 ?_; go_simp)
    have HB1 := Lib.hid (bel2 HB0.out hb1)
    by_cases cn : 1 ≤ n ∧ n ≤ 3
    · have CN := Lib.hid cn
      clear cn
      go_wp2_with fail
      refine (has_yes _ _ _ CN.out ⟨_, _, _, _, rfl⟩).mono ?_
      rintro e w2 ⟨rfl, hb2⟩
      have d1 := cell_stays hb2 c1
      have d2 := cell_stays hb2 c2
      have d3 := cell_stays hb2 c3
      have HB2 := Lib.hid (bel2 HB1.out hb2)
      clear c0 c1 c2 c3 c4 c5 hb1 hb2 y0 y1 y2 y3 z0 z1 z2 z3
      by_cases co : 1 ≤ k ∧ k ≤ 3 ∧ 0 ≤ i ∧ i < 64 ∧ 1 ≤ g ∧ g ≤ 4294967295
      · have CO := Lib.hid co
        clear co
        go_wp2_with fail
        refine (outI_ok _ _ _ CO.out _).mono ?_
        rintro e w3 ⟨rfl, hb3⟩
        go_wp2
        go_ret
        exact ⟨by rw [HE4.out CY.out CN.out CO.out]; rfl, bel2 HB2.out hb3⟩
      · have CO := Lib.hid co
        clear co
        go_wp2_with fail
        refine (outI_bad _ _ _ HO.out CO.out _).mono ?_
        rintro e w3 ⟨rfl, hb3⟩
        go_wp2
        go_ret
        exact ⟨by rw [HE3.out CO.out]; rfl, bel2 HB2.out hb3⟩
    · have CN := Lib.hid cn
      clear cn
      go_wp2_with fail
      refine (has_no _ _ _ CN.out ⟨_, _, _, _, rfl⟩).mono ?_
      rintro e w2 ⟨rfl, hb2⟩
      go_wp2
      go_ret
      exact ⟨by rw [HE2.out CN.out]; rfl, bel2 HB1.out hb2⟩
  · have CY := Lib.hid cy
    clear cy
    go_wp2_with fail
    refine (has_no _ _ _ CY.out ⟨_, _, _, _, rfl⟩).mono ?_
    rintro e w1 ⟨rfl, hb1⟩
    obtain ⟨z0, z1, z2, z3⟩ := HA.out.below hb1
    go_wp2
    go_ret
    exact ⟨by rw [HE.out CY.out]; rfl, bel2 HB0.out hb1⟩
theorem chk_att (a : Att) (hr : a.Rg) (w : World) (he : EnvL w) : Calls Tryz.prog 48 #[a.val] w (ChkV a w) := by
  by_cases h : 0 ≤ a.t ∧ a.t ≤ 1099511627776
  · exact chk_in a hr h w he
  · exact chk_time a (by omega) w he
end Go.Proofs.YtpinmiplefidpaaGreatDoor.LG

namespace Go.Proofs.YtpinmiplefidpaaGreatDoor.LG
open Go.RowKit Go.ChangeShapes

/-- The cells of a ledger and of its book. -/
theorem BookW.cells {w : World} {bk m lo : Nat} {v : Value} {l : List Att} (h : BookW w bk m v lo l) : ∃ a c, v = .slice a l.length c ∧ w.cell? ⟨bk, 0, none⟩ = some (.slice a l.length c) ∧ w.cell? ⟨bk, 1, none⟩ = some (.map (some m)) ∧ w.frozen? ⟨bk, 0, none⟩ = false ∧ RdA w (.slice a l.length c) l := by
  obtain ⟨a, c, e, hr⟩ := (RdA.of_own h.row).len
  subst e
  exact ⟨a, c, rfl, h.hk.cell 0, h.hk.cell 1, h.hk.frozen 0, hr⟩
theorem LedW.cell {w : World} {b bk lo : Nat} {l : List Att} (h : LedW w b bk lo l) : w.cell? ⟨b, 0, none⟩ = some (.pointer (some ⟨bk, 0, none⟩)) := h.hb.cell 0

/-! ### Len -/
set_option maxRecDepth 100000 in
theorem valid_no (p : Option Addr) (w : World) (h : Inv w p) : Calls Tryz.prog 98 #[.pointer p] w fun e w' => e = .returned (.bool false) ∧ w = w' := by
  rcases h with rfl | ⟨b, rfl, h⟩
  · go_enter Tryz.func98, Tryz.ntmps98
    go_wp2
    go_ret
    exact ⟨rfl, rfl⟩
  · have hc : w.cell? ⟨b, 0, none⟩ = some (.pointer none) := h.cell 0
    clear h
    go_enter Tryz.func98, Tryz.ntmps98
    go_wp2
    go_ret
    exact ⟨rfl, rfl⟩
set_option maxRecDepth 100000 in
theorem valid_yes (b bk : Nat) (w : World) (hc : w.cell? ⟨b, 0, none⟩ = some (.pointer (some ⟨bk, 0, none⟩))) : Calls Tryz.prog 98 #[.pointer (some ⟨b, 0, none⟩)] w fun e w' => e = .returned (.bool true) ∧ w = w' := by
  go_enter Tryz.func98, Tryz.ntmps98
  go_wp2
  go_ret
  exact ⟨rfl, rfl⟩
set_option maxRecDepth 100000 in
theorem len_no (p : Option Addr) (w : World) (h : Inv w p) : Calls Tryz.prog 45 #[.pointer p] w fun e w' => e = .returned (.int .i64 0) ∧ w = w' := by
  go_enter Tryz.func45, Tryz.ntmps45
  go_wp2_with (go_at_call 98; refine (valid_no _ _ h).mono ?_; rintro e w' ⟨rfl, rfl⟩)
  go_ret
  exact ⟨rfl, rfl⟩
set_option maxRecDepth 100000 in
theorem len_ok (b bk lo : Nat) (l : List Att) (w : World) (h : LedW w b bk lo l) : Calls Tryz.prog 45 #[.pointer (some ⟨b, 0, none⟩)] w fun e w' => e = .returned (.int .i64 l.length) ∧ w = w' := by
  have hc := h.cell
  have hl := h.len
  obtain ⟨m, v, hB⟩ := h.book
  obtain ⟨a, c, _, h0, _, _, hr⟩ := hB.cells
  clear h hB hr
  go_enter Tryz.func45, Tryz.ntmps45
  go_wp2_with (go_at_call 98; refine (valid_yes _ _ _ hc).mono ?_; rintro e w' ⟨rfl, rfl⟩)
  go_ret
  exact ⟨rfl, rfl⟩

/-! ### put -/
theorem step_append_run {w : World} {ops : Array Oper} {o : Oper} {a : Act} {K : Act → World → Prop} {Q : Exit → Act → World → Prop} {E : Prop} (hgd : o.guard = none) (dst : Option Nat) (hd : o.dst = dst) (s x : Operand) (t tn : TypeId)
    (ho : o.op = .call { callee := .builtin .append, args := #[s, x], argTypes := #[t, tn] }) (vs vx : Value) (hs : a.eval s = vs) (hx : a.eval x = vx)
    (v' : Value) (w' : World) (hr : (Builtin.append_ #[t, tn] o.type #[vs, vx]).run Tryz.prog w = .ok v' w') (h : K (a.put dst v') w') :
    if Region.wanted o (yielded ops a.tmps) = true then Oper.wp Tryz.prog o a w K Q else E := by
  have hw : Region.wanted o (yielded ops a.tmps) = true := by simp [Region.wanted, hgd]
  rw [if_pos hw]
  exact Lib.wp_append_run w s x t tn ho vs vx hs hx v' w' hr (by rw [hd]; exact h)

/-- What put reads while it goes: its book's cells, and its own copy of the attempt in block x. -/
def PutS (W : World) (bk m n : Nat) (sa : Option Addr) (sc x : Nat) (a : Att) : Prop :=
  W.cell? ⟨bk, 0, none⟩ = some (.slice sa n sc) ∧ W.cell? ⟨bk, 1, none⟩ = some (.map (some m)) ∧ Six W x 0 a
set_option maxRecDepth 100000 in
set_option maxHeartbeats 4000000 in
/-- The walk of put: the runs of its operations are given. -/
theorem put_walk (bk m n : Nat) (sa : Option Addr) (sc : Nat) (a : Att) (st : Int) (v0 v1 : Value) (sa2 : Option Addr) (n2 sc2 : Nat) (w A B C D : World) (_hn : n ≤ 10000) (_hsc : sc ≤ 9223372036854775807) (_hnc : n ≤ sc)
    (h0 : w.cell? ⟨bk, 0, none⟩ = some (.slice sa n sc)) (h1 : w.cell? ⟨bk, 1, none⟩ = some (.map (some m))) (hlt : bk < w.heap.size)
    (hme : (Instr.mapEntry 133 (.map (some m)) (okey a.k a.i a.g)).run Tryz.prog (w.alloc (.cells #[.int .i64 a.t, .int .i64 a.k, .int .i64 a.i, .int .u32 a.g, .int .i64 a.y, .int .i64 a.n] 70)).drew = .ok (.tuple #[v0, .int .i64 st]) A)
    (hme2 : (Instr.mapEntry 133 (.map (some m)) (okey a.k a.i a.g)).run Tryz.prog ((w.alloc (.cells #[.int .i64 a.t, .int .i64 a.k, .int .i64 a.i, .int .u32 a.g, .int .i64 a.y, .int .i64 a.n] 70)).alloc (.cells #[.int .i64 n] 3)).drew = .ok (.tuple #[v0, .int .i64 st]) (A.alloc (.cells #[.int .i64 n] 3)))
    (hA : PutS A bk m n sa sc w.heap.size a) (hAs : A.heap.size = w.heap.size + 1)
    (hap : (Builtin.append_ #[164, 164] 164 #[v0, .slice (some ⟨w.heap.size + 1, 0, none⟩) 1 1]).run Tryz.prog (A.alloc (.cells #[.int .i64 n] 3)) = .ok v1 B)
    (hB : PutS B bk m n sa sc w.heap.size a)
    (hes : (Instr.entryStore 133 (.map (some m)) (.int .i64 st) v1).run Tryz.prog B = .ok () C)
    (hC : PutS C bk m n sa sc w.heap.size a) (hCl : bk < C.heap.size)
    (hap2 : (Builtin.append_ #[58, 58] 58 #[.slice sa n sc, .slice (some ⟨C.heap.size, 0, none⟩) 1 1]).run Tryz.prog (C.alloc (.cells #[.int .i64 a.t, .int .i64 a.k, .int .i64 a.i, .int .u32 a.g, .int .i64 a.y, .int .i64 a.n] 70)).drew = .ok (.slice sa2 n2 sc2) D)
    (hD : PutS D bk m n sa sc w.heap.size a) (hDf : D.frozen? ⟨bk, 0, none⟩ = false) :
    Calls Tryz.prog 112 #[.pointer (some ⟨bk, 0, none⟩), a.val] w fun e w' => e = .returned (.tuple #[]) ∧ D.setCell ⟨bk, 0, none⟩ (.slice sa2 n2 sc2) = w' := by
  obtain ⟨t, k, i, g, y, n'⟩ := a
  unfold PutS Six at hA hB hC hD
  simp only [Att.val, okey, Nat.zero_add] at *
  obtain ⟨hA0, hA1, a0, a1, a2, a3, a4, a5⟩ := hA
  obtain ⟨hB0, hB1, b0, b1, b2, b3, b4, b5⟩ := hB
  obtain ⟨hC0, hC1, c0, c1, c2, c3, c4, c5⟩ := hC
  obtain ⟨hD0, hD1, d0, d1, d2, d3, d4, d5⟩ := hD
  go_enter Tryz.func112, Tryz.ntmps112
  go_wp2
  go_region_held_law (fun W => W.cell? ⟨bk, 0, none⟩ = some (.slice sa n sc) ∧ W.cell? ⟨bk, 1, none⟩ = some (.map (some m)) ∧ W.cell? ⟨w.heap.size, 1, none⟩ = some (.int .i64 k) ∧ W.cell? ⟨w.heap.size, 2, none⟩ = some (.int .i64 i) ∧ W.cell? ⟨w.heap.size, 3, none⟩ = some (.int .u32 g)) (first | (exact ⟨hA0, hA1, a1, a2, a3⟩) | (exact ⟨hB0, hB1, b1, b2, b3⟩) | (exact ⟨hC0, hC1, c1, c2, c3⟩) | (go_simp; done) | go_keep)
    ((refine step_append_run (by rfl) (some 18) (by rfl) _ _ _ _ (by rfl) _ _ (by rfl) (by rfl) _ _ hap ?_))
  clear hme hme2 hap hes hA0 hA1 a0 a1 a2 a3 a4 a5 hB0 hB1 b0 b1 b2 b3 b4 b5
  all_goals
    go_wp2
    go_region_law (refine step_append_run (by rfl) (some 27) (by rfl) _ _ _ _ (by rfl) _ _ (by rfl) (by rfl) _ _ hap2 ?_)
    all_goals
      go_wp2
      go_end0
      exact ⟨rfl, rfl⟩
end Go.Proofs.YtpinmiplefidpaaGreatDoor.LG

namespace Go.Proofs.YtpinmiplefidpaaGreatDoor.LG
open Go.RowKit Go.ChangeShapes
open Go.ChangeMaps (setBlock)

theorem _root_.Go.Proofs.YtpinmiplefidpaaGreatDoor.Kept.of_grown {a b : World} {r : Option Nat} (h : a.grownBy b r) : Kept (fun k => some k = r) a b := ⟨h.os, h.tape, h.output, h.size, fun k hk hs => h.block k hk hs⟩
theorem setBlock_alloc {w : World} {m : Nat} (o t : Obj) (h : m < w.heap.size) : setBlock (w.alloc t) m o = (setBlock w m o).alloc t := by
  unfold setBlock World.alloc
  simp only
  congr 1
  apply Array.ext_getElem?
  intro i
  by_cases e1 : m = i
  · subst e1
    simp [Array.getElem?_setIfInBounds, Array.getElem?_push, h, Nat.ne_of_lt h]
    omega
  · by_cases e2 : i = w.heap.size
    · subst e2
      rw [Array.getElem?_setIfInBounds, if_neg e1, Array.getElem?_push, Array.getElem?_push, if_pos rfl, if_pos (by simp)]
    · simp [Array.getElem?_push, e1, e2]
theorem six_of {W : World} {g o : Nat} {a : Att} {cs : Array Value} (h : Bk W g 70 cs) (hc : ∀ j x, a.cl[j]? = some x → cs[o + j]? = some x) : Six W g o a :=
  ⟨(h.cell _).trans (hc 0 _ rfl), (h.cell _).trans (hc 1 _ rfl), (h.cell _).trans (hc 2 _ rfl), (h.cell _).trans (hc 3 _ rfl), (h.cell _).trans (hc 4 _ rfl), (h.cell _).trans (hc 5 _ rfl)⟩
theorem six_new {W : World} {g : Nat} {a : Att} (h : Bk W g 70 a.cl.toArray) : Six W g 0 a := six_of h fun j x hj => by simpa using hj
theorem cls_snoc (l : List Att) (a : Att) : cls (l ++ [a]) = cls l ++ a.cl := by rw [cls_append]; simp [cls]
theorem cl_one (a : Att) : ∀ u ∈ a.cl, u.oneCell' = true := fun u hu => cls_one [a] u (by simpa [cls] using hu)
theorem news_new (w : World) (a : Att) : ∀ j u, a.cl[j]? = some u → (w.alloc (.cells a.cl.toArray 70)).cell? ((⟨w.heap.size, 0, none⟩ : Addr).add j) = some u := by
  intro j u hj
  have e : (⟨w.heap.size, 0, none⟩ : Addr).add j = ⟨w.heap.size, j, none⟩ := by unfold Addr.add; split <;> simp_all
  rw [e, (Bk.new w 70 a.cl.toArray).cell j]
  simpa using hj
/-- What put and Add leave: one attempt more; turned are blocks of the book alone; its blocks are those it had, and new ones. -/
def Put1 (w : World) (bk m lo : Nat) (l : List Att) (w' : World) : Prop :=
  (∃ v', BookW w' bk m v' lo l) ∧ Kept (Foot w bk) w w' ∧ ∀ g, Foot w' bk g → Foot w bk g ∨ w.heap.size ≤ g

set_option maxHeartbeats 1000000 in
theorem put_ok (bk m lo : Nat) (v : Value) (l : List Att) (a : Att) (w : World) (h : BookW w bk m v lo l) (ha : a.Ok) (hl : l.length < 10000) :
    Calls Tryz.prog 112 #[.pointer (some ⟨bk, 0, none⟩), a.val] w fun e w' => e = .returned (.tuple #[]) ∧ Put1 w bk m lo (l ++ [a]) w' := by
  obtain ⟨i0, hi, hz0, hz1, hz2⟩ := info_parts info_int
  obtain ⟨j0, hj, hy0, hy1, hy2⟩ := info_parts info_att
  obtain ⟨sa, sc, rfl, h0, h1, hf0, hrd⟩ := h.cells
  obtain ⟨_, hcap, hcm, _⟩ := hrd.cap
  obtain ⟨D0, hD, hM⟩ := h.grp
  obtain ⟨kl, hkl⟩ := okey_lit ha.rg.o
  obtain ⟨v0, zs, st, o, o1, hbo, hrun, hset, hat, hoi, hzl, hfoot, hstore⟩ := groups_entry lawO Tryz.underlying133 zeroS hD (by unfold maxLen; omega) hkl
  have hzs : zs = plZ l a.k a.i a.g := dat_uniq hoi ((hM.2 _ _ _ _ ha.rg.o hkl).symm.trans hat)
  have hm : m < w.heap.size := (Array.getElem?_eq_some_iff.1 hbo).1
  -- which blocks are apart
  have hbkm : bk ≠ m := by
    rintro rfl
    obtain ⟨es, clock, hb, _⟩ := hD
    have h2 := h.hk
    unfold Bk at h2
    rw [hb] at h2
    cases h2
  have hbk0 : ∀ g, v0.ownBlock = some g → g ≠ bk := by
    rintro g hg rfl
    exact absurd (own_type hoi.1 hg h.hk) (by decide)
  have hbkv : ∀ g, (Value.slice sa l.length sc).ownBlock = some g → g ≠ bk := by
    rintro g hg rfl
    exact absurd (own_type h.row hg h.hk) (by decide)
  have hmv : ∀ g, (Value.slice sa l.length sc).ownBlock = some g → g ≠ m := by
    rintro g hg rfl
    rcases h.row.2 with ⟨e1, _⟩ | ⟨g', cap, cur, e1, _, h3, _⟩
    · rw [e1] at hg; cases hg
    · rw [e1] at hg
      obtain rfl : g' = g := by simpa [Value.ownBlock] using hg
      obtain ⟨es, clock, hb, _⟩ := hD
      rw [hb] at h3
      cases h3
  have hv0v : ∀ g, (Value.slice sa l.length sc).ownBlock = some g → v0.ownBlock ≠ some g := by
    intro g hg hg0
    rcases h.row.2 with ⟨e1, _⟩ | ⟨g', cap, cur, e1, _, h3, _⟩
    · rw [e1] at hg; cases hg
    · rw [e1] at hg
      obtain rfl : g' = g := by simpa [Value.ownBlock] using hg
      exact absurd (own_type hoi.1 hg0 (show Bk w g' 70 cur from h3)) (by decide)
  -- the worlds
  have hfl : ∀ g, Foot w bk g → g < w.heap.size := fun g hg => (h.foot_le hg).2
  have hb1 : Below w.heap.size w (w.alloc (.cells a.cl.toArray 70)).drew := bel_drew (bel_new w _)
  have hbox : Bk (w.alloc (.cells a.cl.toArray 70)).drew w.heap.size 70 a.cl.toArray := Bk.new w _ _
  obtain ⟨W1, hW1⟩ : ∃ W1, (w.alloc (.cells a.cl.toArray 70)).drew = W1 := ⟨_, rfl⟩
  have hW1s : W1.heap.size = w.heap.size + 1 := by rw [← hW1]; simp [World.drew]
  rw [hW1] at hb1 hbox
  have hbo1 : W1.heap[m]? = some o := (hb1.block m hm).trans hbo
  have hrunA := hrun W1 hbo1
  obtain ⟨hA1, hA2⟩ := hset W1 hbo1
  obtain ⟨A, hA⟩ : ∃ A, setBlock W1 m o1 = A := ⟨_, rfl⟩
  have hAs : A.heap.size = w.heap.size + 1 := by rw [← hA, ← hW1s]; simp [setBlock]
  have hrunA2 : (Instr.mapEntry 133 (.map (some m)) (okey a.k a.i a.g)).run Tryz.prog (W1.alloc (.cells #[.int .i64 (l.length : Int)] 3)) = .ok (.tuple #[v0, goInt st]) (A.alloc (.cells #[.int .i64 (l.length : Int)] 3)) := by
    rw [hrun _ ((((bel_new W1 _).block m (by omega)).trans hbo1)), setBlock_alloc _ _ (by omega), hA]
  rw [hA] at hrunA hA1 hA2
  have kA : Kept (fun k => k = m) W1 A := by
    rw [← hA]
    exact ⟨rfl, rfl, rfl, by simp [setBlock], fun k _ hk => by rw [hA]; exact hA2 k hk⟩
  have kA' : Kept (fun k => k = m) W1 (A.alloc (.cells #[.int .i64 (l.length : Int)] 3)) := kA.alloc _
  -- the append to the entry
  have hoA : (A.alloc (.cells #[.int .i64 (l.length : Int)] 3)).ownsInts (m + 1) 3 .i64 v0 zs := ⟨own_same hoi.1 fun g hg => by
    have h2 := hoi.1.lt g hg
    rw [(kA'.block g (by omega) (by omega))]
    exact hb1.block g h2.2, hoi.2⟩
  obtain ⟨v1, B, hap, hown1, hgrB, _, hloc1⟩ := run_append_own_at (P := Tryz.prog) (A.alloc (.cells #[.int .i64 (l.length : Int)] 3)) (m + 1) 164 164 3 i0 (.int .i64 0) 1 8 Tryz.underlying164 hi hz0 hz1 hz2 rfl (by decide) v0 zs.length _ hoA.1 ⟨A.heap.size, 0, none⟩ 1 1 [.int .i64 (l.length : Int)] rfl (cell_one_new _ _ _) (fun u hu => by rw [List.mem_singleton.1 hu]; rfl) (by unfold maxLen; omega) (by omega) (by simp; omega)
  have hown1' : B.ownsInts (m + 1) 3 .i64 v1 (zs ++ [(l.length : Int)]) := World.ownsInts.appended hoA hown1 (WalkArith.wf_i64 (by omega))
  have kB0 : Kept (fun k => k = m ∨ some k = v0.ownBlock) W1 (A.alloc (.cells #[.int .i64 (l.length : Int)] 3)) := kA'.mono fun k _ e => .inl e
  have kB : Kept (fun k => k = m ∨ some k = v0.ownBlock) W1 B := kB0.trans ((Kept.of_grown hgrB).mono fun k _ e => .inr e)
  have hmB : B.heap[m]? = some o1 := by
    rw [hgrB.block m (by simp; omega) (fun e => by have := (hoi.1.lt m e.symm).1; omega), (bel_new A _).block m (by omega)]
    exact hA1
  have hBs := hgrB.size
  rw [size_up, hAs] at hBs
  -- the store into the entry
  obtain ⟨C, hes, hgC, hgrC, hfC⟩ := hstore B v1 (zs ++ [(l.length : Int)]) hmB (by omega) (fun k hk h2 h3 => (kB.block k (by omega) (by rintro (e | e); exact h2 e; exact h3 e)).trans (hb1.block k hk)) hown1' (by simp; omega) (by
    rcases hloc1 with e | e
    · exact .inl e
    · exact .inr ⟨_, e, by simp; omega⟩)
  have kC : Kept (fun k => k = m ∨ some k = v0.ownBlock) W1 C := kB.trans ((Kept.of_grown hgrC).mono fun k _ e => .inl (Option.some.inj e))
  -- the append to the list
  have hrowC : ((C.alloc (.cells a.cl.toArray 70)).drew).ownsRow lo 70 6 (.slice sa l.length sc) l.length (cls l) := own_same h.row fun g hg => by
    have h2 := (h.row.lt g hg).2
    have h3 : (C.alloc (.cells a.cl.toArray 70)).drew.heap[g]? = C.heap[g]? := (bel_new C _).block g (by have := kC.size; omega)
    rw [h3, kC.block g (by omega) (by rintro (e | e); exact hmv g hg e; exact hv0v g hg e.symm)]
    exact hb1.block g h2
  have hlo : lo ≤ w.heap.size := by have := h.lb; have := h.hk.lt; omega
  have hCs := kC.size
  obtain ⟨v2, D, hap2, hown2, hgrD, hnil2, hloc2⟩ := run_append_own_at (P := Tryz.prog) (C.alloc (.cells a.cl.toArray 70)).drew lo 58 58 70 j0 _ 6 48 Tryz.underlying58 hj hy0 hy1 hy2 rfl (by decide) (.slice sa l.length sc) l.length _ hrowC ⟨C.heap.size, 0, none⟩ 1 1 a.cl rfl (news_new C a) (cl_one a) (by unfold maxLen; omega) (by omega) (by simp [World.drew]; omega)
  obtain ⟨g2, sc2, rfl, hg2lo, hg2lt⟩ := World.ownsRow.form hown2 (by omega)
  have kD : Kept (fun k => k = m ∨ some k = v0.ownBlock ∨ some k = (Value.slice sa l.length sc).ownBlock) W1 D :=
    (((kC.alloc (.cells a.cl.toArray 70)).drew).mono fun k _ e => by rcases e with e | e; exact .inl e; exact .inr (.inl e)).trans ((Kept.of_grown hgrD).mono fun k _ e => .inr (.inr e))
  -- all in terms of w
  have hnb : ¬ (bk = m ∨ some bk = v0.ownBlock ∨ some bk = (Value.slice sa l.length sc).ownBlock) := by
    rintro (e | e | e)
    · exact hbkm e
    · exact hbk0 bk e.symm rfl
    · exact hbkv bk e.symm rfl
  have hnx : ¬ (w.heap.size = m ∨ some w.heap.size = v0.ownBlock ∨ some w.heap.size = (Value.slice sa l.length sc).ownBlock) := by
    rintro (e | e | e)
    · omega
    · have := (hoi.1.lt _ e.symm).2; omega
    · have := (h.row.lt _ e.symm).2; omega
  have hbk1 : Bk W1 bk 135 #[.slice sa l.length sc, .map (some m)] := h.hk.below hb1
  have puts : ∀ W, Kept (fun k => k = m ∨ some k = v0.ownBlock ∨ some k = (Value.slice sa l.length sc).ownBlock) W1 W → PutS W bk m l.length sa sc w.heap.size a := fun W kW => by
    have e1 := hbk1.kept kW hnb
    exact ⟨e1.cell 0, e1.cell 1, six_new (hbox.kept kW hnx)⟩
  have kAx : Kept (fun k => k = m ∨ some k = v0.ownBlock ∨ some k = (Value.slice sa l.length sc).ownBlock) W1 A := kA.mono fun k _ e => .inl e
  have kBx : Kept (fun k => k = m ∨ some k = v0.ownBlock ∨ some k = (Value.slice sa l.length sc).ownBlock) W1 B := kB.mono fun k _ e => by rcases e with e | e; exact .inl e; exact .inr (.inl e)
  have kCx : Kept (fun k => k = m ∨ some k = v0.ownBlock ∨ some k = (Value.slice sa l.length sc).ownBlock) W1 C := kC.mono fun k _ e => by rcases e with e | e; exact .inl e; exact .inr (.inl e)
  have hbkD : Bk D bk 135 #[.slice sa l.length sc, .map (some m)] := hbk1.kept kD hnb
  rw [hAs] at hap
  refine (put_walk bk m l.length sa sc a st v0 v1 (some ⟨g2, 0, none⟩) (l.length + 1) sc2 w A B C D (by omega) hcm hcap h0 h1 h.hk.lt (by rw [← hW1] at hrunA; exact hrunA) (by rw [← hW1] at hrunA2; exact hrunA2) (puts A kAx) hAs hap (puts B kBx) hes (puts C kCx) (by have := h.hk.lt; omega) hap2 (puts D kD) (hbkD.frozen 0)).mono ?_
  rintro e w' ⟨rfl, rfl⟩
  refine ⟨rfl, ?_⟩
  -- the book behind it
  have hfin : Bk (D.setCell ⟨bk, 0, none⟩ (.slice (some ⟨g2, 0, none⟩) (l.length + 1) sc2)) bk 135 #[.slice (some ⟨g2, 0, none⟩) (l.length + 1) sc2, .map (some m)] := by
    have := hbkD.put 0 (.slice (some ⟨g2, 0, none⟩) (l.length + 1) sc2)
    simpa using this
  have hoth : ∀ k, k ≠ bk → (D.setCell ⟨bk, 0, none⟩ (.slice (some ⟨g2, 0, none⟩) (l.length + 1) sc2)).heap[k]? = D.heap[k]? := fun k hk => Below.heap_setCell _ _ _ _ hk
  have hg2bk : g2 ≠ bk := by
    rintro rfl
    exact absurd (own_type hown2 rfl hbkD) (by decide)
  have hCD : ∀ k, k < C.heap.size → some k ≠ (Value.slice sa l.length sc).ownBlock → D.heap[k]? = C.heap[k]? := fun k hk hne => by
    rw [hgrD.block k (by simp [World.drew]; omega) hne]
    exact (bel_new C _).block k hk
  have hmC : m < C.heap.size := by omega
  have hgl : ∀ g, gfoot C m g → g < C.heap.size ∧ g ≠ bk ∧ some g ≠ (Value.slice sa l.length sc).ownBlock := fun g hg => by
    obtain ⟨cs, hcs⟩ := gfoot_type hgC hg
    have hb2 : Bk C g 3 cs := hcs
    refine ⟨hb2.lt, ?_, ?_⟩
    · rintro rfl
      exact absurd (hb2.uniq (hbk1.kept kCx hnb)).1 (by decide)
    · intro e
      rcases h.row.2 with ⟨e1, _⟩ | ⟨g', cap, cur, e1, _, h3, _⟩
      · rw [e1] at e; cases e
      · rw [e1] at e
        obtain rfl : g = g' := by simpa [Value.ownBlock] using e
        have h4 : Bk C g 70 cur := by
          have h5 : Bk W1 g 70 cur := (show Bk w g 70 cur from h3).below hb1
          refine h5.kept kC ?_
          rintro (e2 | e2)
          · exact hmv g (by rw [e1]; rfl) e2
          · exact hv0v g (by rw [e1]; rfl) e2.symm
        exact absurd (hb2.uniq h4).1 (by decide)
  obtain ⟨hgE, hgf⟩ := groups_same hgC (w' := D.setCell ⟨bk, 0, none⟩ (.slice (some ⟨g2, 0, none⟩) (l.length + 1) sc2)) ((hoth m hbkm.symm).trans (hCD m hmC (fun e => hmv m e.symm rfl))) (fun g hg => by
    obtain ⟨q1, q2, q3⟩ := hgl g hg
    exact (hoth g q2).trans (hCD g q1 q3))
  have hbook : BookW (D.setCell ⟨bk, 0, none⟩ (.slice (some ⟨g2, 0, none⟩) (l.length + 1) sc2)) bk m (.slice (some ⟨g2, 0, none⟩) (l.length + 1) sc2) lo (l ++ [a]) := by
    refine ⟨allOk_append.2 ⟨h.ok, allOk_one.2 ha⟩, by simp; omega, hfin, ?_, ⟨_, by rw [List.length_append]; exact hgE, ?_⟩, h.lb, h.lm⟩
    · rw [List.length_append, cls_snoc]
      exact own_same hown2 fun g hg => hoth g (by
        obtain rfl : g2 = g := by simpa [Value.ownBlock] using hg
        exact hg2bk)
    · rw [hzs] at hown1'
      rw [hzs]
      exact mapOf_put hM ha.rg.o hkl hown1'
  have hkept : Kept (Foot w bk) w D := by
    have h2 : Kept (Foot w bk) w W1 := Kept.mono (Kept.of_below (S := fun _ => False) hb1) fun k _ e => e.elim
    refine h2.trans (kD.mono fun k _ e => h.foot.2 ?_)
    rcases e with e | e | e
    · exact .inr (.inl e)
    · exact .inr (.inr (.inr (hfoot k e.symm)))
    · exact .inr (.inr (.inl e.symm))
  refine ⟨⟨_, hbook⟩, hkept.put (p := ⟨bk, 0, none⟩) (.inr (.inl rfl)) _, fun g hg => ?_⟩
  rcases hbook.foot.1 hg with e | e | e | e
  · exact .inl (.inl e)
  · exact .inl (h.foot.2 (.inr (.inl e)))
  · obtain rfl : g2 = g := by simpa [Value.ownBlock] using e
    rcases hloc2 with e2 | e2
    · exact .inl (h.foot.2 (.inr (.inr (.inl (e2.symm.trans rfl)))))
    · have e3 : g2 = (C.alloc (.cells a.cl.toArray 70)).drew.heap.size := Option.some.inj e2
      refine .inr ?_
      rw [e3]
      simp [World.drew]
      omega
  · rcases hfC g ((hgf g).1 e) with e2 | e2
    · exact .inl (h.foot.2 (.inr (.inr (.inr e2))))
    · rcases hloc1 with e3 | e3
      · exact .inl (h.foot.2 (.inr (.inr (.inr (hfoot g (e3.symm.trans e2))))))
      · rw [e3] at e2
        have e4 := Option.some.inj e2
        refine .inr ?_
        rw [← e4]
        simp
        omega
end Go.Proofs.YtpinmiplefidpaaGreatDoor.LG

namespace Go.Proofs.YtpinmiplefidpaaGreatDoor.LG
open Go.RowKit Go.ChangeShapes

open Classical in
/-- The error of Add. -/
noncomputable def addE (l : List Att) (a : Att) : Int :=
  if ¬ a.Ok then 2 else if ∃ z, l.getLast? = some z ∧ a.t < z.t then 8 else if 10000 ≤ l.length then 4 else 0
open Classical in
/-- The attempts behind Add. -/
noncomputable def addL (l : List Att) (a : Att) : List Att := if addE l a = 0 then l ++ [a] else l
theorem addE_arg {l : List Att} {a : Att} (h : ¬ a.Ok) : addE l a = 2 := if_pos h
theorem addE_state {l : List Att} {a : Att} (h : a.Ok) (h2 : ∃ z, l.getLast? = some z ∧ a.t < z.t) : addE l a = 8 := by
  unfold addE; rw [if_neg (by simpa using h), if_pos h2]
theorem addE_full {l : List Att} {a : Att} (h : a.Ok) (h2 : ¬ ∃ z, l.getLast? = some z ∧ a.t < z.t) (h3 : 10000 ≤ l.length) : addE l a = 4 := by
  unfold addE; rw [if_neg (by simpa using h), if_neg h2, if_pos h3]
theorem addE_ok {l : List Att} {a : Att} (h : a.Ok) (h2 : ¬ ∃ z, l.getLast? = some z ∧ a.t < z.t) (h3 : l.length < 10000) : addE l a = 0 := by
  unfold addE; rw [if_neg (by simpa using h), if_neg h2, if_neg (by omega)]
theorem addL_no {l : List Att} {a : Att} (h : addE l a ≠ 0) : addL l a = l := if_neg h
theorem addL_ok {l : List Att} {a : Att} (h : addE l a = 0) : addL l a = l ++ [a] := if_pos h
def AddV (b bk lo : Nat) (l : List Att) (a : Att) (w : World) (e : Ending) (w' : World) : Prop :=
  e = .returned (.int .i64 (addE l a)) ∧ LedW w' b bk lo (addL l a) ∧ Kept (Foot w bk) w w' ∧ ∀ g, Foot w' bk g → Foot w bk g ∨ w.heap.size ≤ g
/-- Where nothing is added. -/
theorem addV_same {b bk lo : Nat} {l : List Att} {a : Att} {w w' : World} {E : Int} (h : LedW w b bk lo l) (hE : addE l a = E) (h0 : E ≠ 0) (hb : Below w.heap.size w w') : AddV b bk lo l a w (.returned (.int .i64 E)) w' := by
  obtain ⟨h1, h2⟩ := h.below hb
  exact ⟨by rw [hE], by rw [addL_no (by rw [hE]; exact h0)]; exact h1, (Kept.of_below (S := fun _ => False) hb).mono fun _ _ e => e.elim, fun g hg => .inl ((h2 g).1 hg)⟩
theorem addV_put {b bk lo m : Nat} {l : List Att} {a : Att} {w w1 w' : World} (h : LedW w b bk lo l) (hE : addE l a = 0) (hb : Below w.heap.size w w1) (hp : Put1 w1 bk m lo (l ++ [a]) w') : AddV b bk lo l a w (.returned (.int .i64 0)) w' := by
  obtain ⟨h1, h2⟩ := h.below hb
  obtain ⟨h3, h4, h5⟩ := hp
  refine ⟨by rw [hE], ?_, ((Kept.of_below (S := fun _ => False) hb).mono fun _ _ e => e.elim).trans (h4.mono fun k _ e => (h2 k).1 e), fun g hg => ?_⟩
  · rw [addL_ok hE]
    exact ⟨h1.hb.kept h4 h1.not_foot, m, h3⟩
  · rcases h5 g hg with e | e
    · exact .inl ((h2 g).1 e)
    · have := hb.size; exact .inr (by omega)

set_option maxRecDepth 100000 in
theorem add_no (p : Option Addr) (a : Att) (w : World) (h : Inv w p) : Calls Tryz.prog 70 #[.pointer p, a.val] w fun e w' => e = .returned (.int .i64 1) ∧ Below w.heap.size w w' := by
  have hI : Hid (Inv (w.alloc (.cells #[.int .i64 a.t, .int .i64 a.k, .int .i64 a.i, .int .u32 a.g, .int .i64 a.y, .int .i64 a.n] 70)) p) := h.below (bel_new _ _)
  obtain ⟨t, k, i, g, y, n⟩ := a
  simp only [Att.val] at *
  clear h
  go_enter Tryz.func70, Tryz.ntmps70
  go_wp2_with (go_at_call 98; refine (valid_no _ _ hI.out).mono ?_; rintro e w' ⟨rfl, rfl⟩)
  go_ret
  exact ⟨rfl, bel_new _ _⟩

set_option maxRecDepth 100000 in
set_option maxHeartbeats 2000000 in
theorem add_ok (b bk lo : Nat) (l : List Att) (a : Att) (w : World) (h : LedW w b bk lo l) (hr : a.Rg) (he : EnvL w) : Calls Tryz.prog 70 #[.pointer (some ⟨b, 0, none⟩), a.val] w (AddV b bk lo l a w) := by
  have H := Lib.hid h
  have HR := Lib.hid hr
  have HB0 := Lib.hid (bel_new w (.cells #[.int .i64 a.t, .int .i64 a.k, .int .i64 a.i, .int .u32 a.g, .int .i64 a.y, .int .i64 a.n] 70))
  have hbox : Bk (w.alloc (.cells #[.int .i64 a.t, .int .i64 a.k, .int .i64 a.i, .int .u32 a.g, .int .i64 a.y, .int .i64 a.n] 70)) w.heap.size 70 a.cl.toArray := Bk.new w _ _
  have HBX := Lib.hid hbox
  obtain ⟨c0, c1, c2, c3, c4, c5⟩ := six_new hbox
  have HE := Lib.hid he
  have hc := (h.below HB0.out).1.cell
  have HC := Lib.hid hc
  have hvl : a.val = .agg #[.int .i64 a.t, .int .i64 a.k, .int .i64 a.i, .int .u32 a.g, .int .i64 a.y, .int .i64 a.n] := rfl
  have HV := Lib.hid hvl
  rw [hvl]
  simp only [Nat.zero_add] at c0 c1 c2 c3 c4 c5
  clear h hr he hbox hvl
  go_enter Tryz.func70, Tryz.ntmps70
  go_wp2_with (go_at_call 98; refine (valid_yes _ _ _ HC.out).mono ?_; rintro e w' ⟨rfl, rfl⟩)
  refine (chk_att a HR.out _ (HE.out.below HB0.out)).mono ?_
  rintro e w1 ⟨hee, hb1⟩
  have HB1 := Lib.hid (bel2 HB0.out hb1)
  rcases a.ok_or with hok | hno
  · rw [chkE_ok hok] at hee
    subst hee
    have HOK := Lib.hid hok
    obtain ⟨H1, HF1⟩ := H.out.below HB1.out
    have HL1 := Lib.hid H1
    have hc1 := H1.cell
    have hlen := H1.len
    obtain ⟨m, v, hB⟩ := H1.book
    obtain ⟨sa, sc, rfl, k0, k1, _, hrd⟩ := hB.cells
    have HBK := Lib.hid hB
    have HRD := Lib.hid hrd
    obtain ⟨d0, d1, d2, d3, d4, d5⟩ := six_new (HBX.out.below hb1)
    simp only [Nat.zero_add] at d0 d1 d2 d3 d4 d5
    obtain ⟨_, hcap, hcm, _⟩ := hrd.cap
    have PUT : ∀ W, Below w1.heap.size w1 W → l.length < 10000 → Calls Tryz.prog 112 #[.pointer (some ⟨bk, 0, none⟩), a.val] W fun e w' => e = .returned (.tuple #[]) ∧ Put1 W bk m lo (l ++ [a]) w' := fun W hW hl => put_ok bk m lo _ l a W (HBK.out.below hW).1 HOK.out hl
    have HPUT := Lib.hid PUT
    clear PUT H1 HF1 hB hok hb1 c0 c1 c2 c3 c4 c5 hc
    rcases Nat.eq_zero_or_pos l.length with hl0 | hl0
    · go_wp2_with (go_at_call 45; refine (len_ok _ _ _ _ _ HL1.out).mono ?_; rintro e w' ⟨rfl, rfl⟩)
      have hl : l = [] := List.eq_nil_of_length_eq_zero hl0
      subst hl
      simp only [List.length_nil] at *
      have hE : addE [] a = 0 := addE_ok HOK.out (by simp) (by simp)
      have HEE := Lib.hid hE
      clear hE hl0
      go_quiet (fail)
      have HW : Hid (Below w1.heap.size w1 (w1.drewN nq)) := bel_drewN (Below.refl _ _) _
      generalize w1.drewN nq = W2 at *
      have hc2 := cell_stays HW.out hc1
      have k2 := cell_stays HW.out k0
      have e0 := cell_stays HW.out d0
      have e1 := cell_stays HW.out d1
      have e2 := cell_stays HW.out d2
      have e3 := cell_stays HW.out d3
      have e4 := cell_stays HW.out d4
      have e5 := cell_stays HW.out d5
      clear hc1 k0 k1 d0 d1 d2 d3 d4 d5
      go_wp2
      go_still_tail 5, (by kernel_rfl)
      change wpList _ _ _ _ _ W2.drew
      go_wp2_with (go_at_call 112; refine (HPUT.out _ (bel_drew HW.out) (by omega)).mono ?_; rintro e w' ⟨rfl, hp⟩)
      have HP := Lib.hid hp
      clear hp
      go_wp2
      go_ret
      exact addV_put H.out HEE.out (bel2 HB1.out (bel_drew HW.out)) HP.out
    · obtain ⟨N, hN⟩ : ∃ N, l.length = N + 1 := ⟨l.length - 1, by omega⟩
      obtain ⟨g, off, rfl, hg, q0, q1⟩ := hrd.cell (j := N) (by omega)
      clear q1
      have hlast : l.getLast? = some (l[N]'(by omega)) := by
        rw [List.getLast?_eq_getElem?, show l.length - 1 = N by omega]; exact List.getElem?_eq_getElem (by omega)
      obtain ⟨z, hz⟩ : ∃ z, l[N]'(by omega) = z := ⟨_, rfl⟩
      rw [hz] at q0 hlast
      have HX : Hid (¬ a.t < z.t → ¬ ∃ z, l.getLast? = some z ∧ a.t < z.t) := fun h => by
        rintro ⟨z', h1, h2⟩
        rw [hlast] at h1
        exact h (Option.some.inj h1 ▸ h2)
      have HY : Hid (a.t < z.t → addE l a = 8) := fun h => addE_state HOK.out ⟨z, hlast, h⟩
      have HLN := Lib.hid hN
      rw [hN] at k0 hcap hlen
      clear hlast hz hl0 hrd hN
      have hgt : (0 : Int) < (N : Int) + 1 := by omega
      go_wp2_with fail
      refine (len_ok _ _ _ _ _ HL1.out).mono ?_
      rintro e w' ⟨hee, rfl⟩
      rw [HLN.out] at hee
      subst hee
      by_cases hlt : a.t < z.t
      · have HE8 := Lib.hid (HY.out hlt)
        go_wp2
        go_quiet (fail)
        go_wp2
        go_ret
        exact addV_same H.out HE8.out (by decide) (bel2 HB1.out (bel_drewN (Below.refl _ _) _))
      · have HX1 := Lib.hid (HX.out (by omega))
        by_cases hful : N + 1 = 10000
        · obtain rfl : N = 9999 := by omega
          simp only [Nat.reduceAdd] at *
          have HE4 : Hid (addE l a = 4) := addE_full HOK.out HX1.out (by have := HLN.out; omega)
          go_wp2
          go_quiet (fail)
          go_wp2
          go_ret
          exact addV_same H.out HE4.out (by decide) (bel2 HB1.out (bel_drewN (Below.refl _ _) _))
        · have HE0 : Hid (addE l a = 0) := addE_ok HOK.out HX1.out (by have := HLN.out; omega)
          have hne : (((N : Int) + 1) == 10000) = false := beq_eq_false_iff_ne.2 (by omega)
          go_wp2
          go_quiet (fail)
          have HW : Hid (Below w1.heap.size w1 (w1.drewN nq)) := bel_drewN (Below.refl _ _) _
          generalize w1.drewN nq = W2 at *
          have hc2 := cell_stays HW.out hc1
          have k2 := cell_stays HW.out k0
          have e0 := cell_stays HW.out d0
          have e1 := cell_stays HW.out d1
          have e2 := cell_stays HW.out d2
          have e3 := cell_stays HW.out d3
          have e4 := cell_stays HW.out d4
          have e5 := cell_stays HW.out d5
          clear hc1 k0 k1 d0 d1 d2 d3 d4 d5
          go_wp2
          go_still_tail 5, (by kernel_rfl)
          change wpList _ _ _ _ _ W2.drew
          go_wp2_with (go_at_call 112; refine (HPUT.out _ (bel_drew HW.out) (by have := HLN.out; omega)).mono ?_; rintro e w' ⟨rfl, hp⟩)
          have HP := Lib.hid hp
          clear hp
          go_wp2
          go_ret
          exact addV_put H.out HE0.out (bel2 HB1.out (bel_drew HW.out)) HP.out
  · rw [chkE_bad hno] at hee
    subst hee
    have hE : addE l a = 2 := addE_arg hno
    clear hno
    go_wp2
    go_ret
    exact addV_same H.out hE (by decide) HB1.out
end Go.Proofs.YtpinmiplefidpaaGreatDoor.LG

namespace Go.Proofs.YtpinmiplefidpaaGreatDoor.LG
open Go.RowKit Go.ChangeShapes

/-- A new slice that holds l. -/
def NewA (l : List Att) (w : World) (e : Ending) (w' : World) : Prop :=
  ∃ v, e = .returned v ∧ w'.ownsRow w.heap.size 70 6 v l.length (cls l) ∧ Below w.heap.size w w'
theorem ownA_lt {w : World} {base n s : Nat} {v : Value} {e : TypeId} {xs : List Value} (h : w.ownsRow base e s v n xs) : ∀ k, v.ownBlock = some k → base ≤ k := fun k hk => (h.lt k hk).1
theorem ownA_empty (w : World) : (w.alloc (.cells #[] 70)).ownsRow w.heap.size 70 6 (.slice (some ⟨w.heap.size, 0, none⟩) 0 0) 0 [] := World.ownsRow_lit w #[] 0 (Nat.le_refl _) (by decide) rfl
/-- The cells of a slice that is read. -/
theorem RdA.news {w : World} {ad : Addr} {n c : Nat} {l : List Att} (h : RdA w (.slice (some ad) n c) l) : ∀ j u, (cls l)[j]? = some u → w.cell? (ad.add j) = some u := by
  intro j u hj
  obtain ⟨a', c', e, h1, h2, h3, h4⟩ := h
  injection e with e1 e2 e3
  have hl : 0 < l.length := by
    have := (List.getElem?_eq_some_iff.1 hj).1
    rw [cls_length] at this
    omega
  obtain ⟨g, off, e4, hg, hc⟩ := h4 hl
  rw [← e1] at e4
  obtain rfl := Option.some.inj e4
  have e : (⟨g, off, none⟩ : Addr).add j = ⟨g, off + j, none⟩ := by unfold Addr.add; split <;> simp_all
  rw [e]; exact hc j u hj
set_option maxHeartbeats 1000000 in
set_option maxRecDepth 100000 in
theorem clone_ok (a : Option Addr) (n c : Nat) (l : List Att) (w : World) (h : RdA w (.slice a n c) l) (hl : l.length ≤ 100000) :
    Calls Tryz.prog 99 #[.slice a n c] w (NewA l w) := by
  obtain ⟨hn, h1, h2, h3⟩ := h.cap
  subst hn
  obtain ⟨j0, hj, hy0, hy1, hy2⟩ := info_parts info_att
  cases a with
  | none =>
    have hc := h3 rfl
    subst hc
    have : l = [] := List.eq_nil_of_length_eq_zero (by omega)
    subst this
    have heq := Lib.run_eql_slice_nil (P := Tryz.prog) w 58 70 none 0 0 0 0 Tryz.underlying58
    go_enter Tryz.func99, Tryz.ntmps99
    go_wp2
    go_ret
    exact ⟨_, rfl, World.ownsRow_nil _ _ _ _, Below.refl _ _⟩
  | some b =>
    have heq := Lib.run_eql_slice_nil (P := Tryz.prog) w 58 70 (some b) l.length c 0 0 Tryz.underlying58
    have H := Lib.hid (h.below (bel_new w (.cells #[] 70)))
    have HO := Lib.hid (ownA_empty w)
    clear h h3
    go_enter Tryz.func99, Tryz.ntmps99
    go_wp2_with (at_builtin; refine wpList_append_own _ rfl _ _ 58 rfl w.heap.size 70 j0 _ 6 48 Tryz.underlying58 hj hy0 hy1 hy2 rfl (by decide) _ 0 [] rfl HO.out b l.length c (cls l) rfl (cls_length l) H.out.news (cls_one l) ?c1 ?c2 ?c3 ?_)
    case c1 => unfold maxLen; omega
    case c2 => omega
    case c3 => simp
    intro v' w1 hown hgrow _
    have HV : Hid (NewA l w (.returned v') w1) := ⟨v', rfl, by simpa using hown, (bel_new w _).grown hgrow (by simp) (fun k hk => ownA_lt HO.out k hk)⟩
    clear hown hgrow
    go_wp2
    go_ret
    exact HV.out

/-! ### All -/
set_option maxRecDepth 100000 in
theorem all_no (p : Option Addr) (w : World) (h : Inv w p) : Calls Tryz.prog 40 #[.pointer p] w fun e w' => e = .returned (.slice none 0 0) ∧ w = w' := by
  go_enter Tryz.func40, Tryz.ntmps40
  go_wp2_with (go_at_call 98; refine (valid_no _ _ h).mono ?_; rintro e w' ⟨rfl, rfl⟩)
  go_ret
  exact ⟨rfl, rfl⟩
set_option maxRecDepth 100000 in
theorem all_ok (b bk lo : Nat) (l : List Att) (w : World) (h : LedW w b bk lo l) : Calls Tryz.prog 40 #[.pointer (some ⟨b, 0, none⟩)] w (NewA l w) := by
  have hc := h.cell
  have hl := h.len
  obtain ⟨m, v, hB⟩ := h.book
  obtain ⟨a, c, _, h0, _, _, hr⟩ := hB.cells
  have HR := Lib.hid hr
  clear h hB hr
  go_enter Tryz.func40, Tryz.ntmps40
  go_wp2_with (go_at_call 98; refine (valid_yes _ _ _ hc).mono ?_; rintro e w' ⟨rfl, rfl⟩)
  refine (clone_ok a _ c l _ HR.out (by omega)).mono ?_
  rintro e w1 ⟨v1, rfl, ho, hb⟩
  have HV : Hid (NewA l w (.returned v1) w1) := ⟨v1, rfl, ho, hb⟩
  clear ho hb
  go_wp2
  go_ret
  exact HV.out

/-! ### Equal -/
/-- Two lists of attempts are equal. -/
theorem val_ne {a b : Att} (h : a ≠ b) : (a.t == b.t && a.k == b.k && a.i == b.i && a.g == b.g && a.y == b.y && a.n == b.n) = false := by
  rw [Bool.eq_false_iff]
  intro e
  simp only [Bool.and_eq_true, beq_iff_eq] at e
  obtain ⟨⟨⟨⟨⟨e1, e2⟩, e3⟩, e4⟩, e5⟩, e6⟩ := e
  exact h (by cases a; cases b; simp_all)
end Go.Proofs.YtpinmiplefidpaaGreatDoor.LG

namespace Go.Proofs.YtpinmiplefidpaaGreatDoor.LG
open Go.RowKit Go.Shelf Go.ChangeShapes
open Go.ChangeMaps Go.MapKept
open Go.WideElems (Fit rd rg rd_val)
attribute [local go_sem] Oper.semAt_some

section
variable {H : Type} {P : Program} {w : World} {k e : TypeId} {q : IntKind} {base b n : Nat} {D : DataW H}
/-- A look-up in such a map, in whatever world that holds the map's block. -/
theorem groups_look (KL : WideMaps.KeyLaw P k) {t E : TypeId} (ht : P.underlying t = some (.map k E)) (hz : ∀ u : World, (zeroValue E).run P u = .ok (.slice none 0 0) u) (h : w.ownsGroups (H := H) P k base e q b n D) {key : Value} {kl : Lit} (hkey : keyOf P k key = some kl) :
    ∃ (v : Value) (zs : List Int) (o : Obj), w.heap[b]? = some o ∧ (∀ W : World, W.heap[b]? = some o → (Instr.lookup t (.map (some b)) key false).run P W = .ok v W) ∧ D.atKey kl .nil = rowDatum q v zs ∧ w.ownsInts base e q v zs ∧ (∀ g, v.ownBlock = some g → gfoot w b g) := by
  obtain ⟨es, clock, hb, F, hs, rfl, hbb, hlen, hap⟩ := h
  have K := Maps.Keyed.of_law KL
  rcases Maps.fit_look false K ht (hz w) hb F hkey with ⟨hrun, hno, hat⟩ | ⟨e0, y, hm0, h3, hrun, hR, hat, _⟩
  · refine ⟨.slice none 0 0, [], _, hb, fun W hW => ?_, hat _, World.ownsInts_nil _ _ _ _, fun g hg => by cases hg⟩
    rcases Maps.fit_look false K ht (hz W) hW F hkey with ⟨hrun, _, _⟩ | ⟨e0, y, hm0, h3, _⟩
    · exact hrun
    · exact absurd h3 (hno e0 hm0)
  · obtain ⟨zs, ho, rfl⟩ := rowElem_inv hR
    refine ⟨e0.val, zs, _, hb, fun W hW => ?_, hat _, ho, fun g hg => ⟨es, clock, hb, e0, hm0, hg⟩⟩
    rcases Maps.fit_look false K ht (hz W) hW F hkey with ⟨_, hno, _⟩ | ⟨e1, y, hm1, h4, hrun1, _⟩
    · exact absurd h3 (hno e0 hm0)
    · have : e0 = e1 := by
        obtain ⟨_, _, s3⟩ := F.stamped
        obtain ⟨i, hi, hi2⟩ := List.getElem_of_mem hm0
        obtain ⟨j, hj, hj2⟩ := List.getElem_of_mem hm1
        have e1' : i = j := (List.getElem?_inj (by rw [List.length_map]; exact hi) s3).1 (by rw [List.getElem?_map, List.getElem?_map, List.getElem?_eq_getElem hi, List.getElem?_eq_getElem hj]; simp [hi2, hj2, h3, h4])
        subst e1'
        exact hi2.symm.trans hj2
      subst this
      exact hrun1
end

theorem BookW.same {w w' : World} {bk m lo : Nat} {v : Value} {l : List Att} (h : BookW w bk m v lo l) (st : ∀ g, Foot w bk g → w'.heap[g]? = w.heap[g]?) : BookW w' bk m v lo l ∧ ∀ g, Foot w' bk g ↔ Foot w bk g := by
  obtain ⟨D, hD, hM⟩ := h.grp
  obtain ⟨hD', hf⟩ := groups_same hD (st m (h.foot.2 (.inr (.inl rfl)))) (fun g hg => st g (h.foot.2 (.inr (.inr (.inr hg)))))
  have h' : BookW w' bk m v lo l := ⟨h.ok, h.len, h.hk.same (st bk (.inl rfl)), own_same h.row fun g hg => st g (h.foot.2 (.inr (.inr (.inl hg)))), ⟨D, hD', hM⟩, h.lb, h.lm⟩
  exact ⟨h', fun g => by rw [h'.foot, h.foot, hf]⟩
theorem LedW.same {w w' : World} {b bk lo : Nat} {l : List Att} (h : LedW w b bk lo l) (hb : w'.heap[b]? = w.heap[b]?) (st : ∀ g, Foot w bk g → w'.heap[g]? = w.heap[g]?) : LedW w' b bk lo l ∧ ∀ g, Foot w' bk g ↔ Foot w bk g := by
  obtain ⟨m, v, hB⟩ := h.book
  obtain ⟨h1, h2⟩ := hB.same st
  exact ⟨⟨h.hb.same hb, m, v, h1⟩, h2⟩


/-- What a round that goes on keeps: the blocks below n₀ that X does not name. -/
def KpS (X : Nat → Prop) (n₀ : Nat) (A B : World) : Prop := ∀ k, k < n₀ → ¬ X k → B.heap[k]? = A.heap[k]?
theorem KpS.refl (X : Nat → Prop) (n₀ : Nat) (A : World) : KpS X n₀ A A := fun _ _ _ => rfl
theorem KpS.trans {X : Nat → Prop} {n₀ : Nat} {A B C : World} (h : KpS X n₀ A B) (k : KpS X n₀ B C) : KpS X n₀ A C := fun i hi hx => (k i hi hx).trans (h i hi hx)
theorem kpS_b {X : Nat → Prop} {n₀ : Nat} {w : World} (hn : n₀ ≤ w.heap.size) (W : World) (l : Nat) (o o' : Obj) (hl : w.heap.size ≤ l) (h : W.heap[l]? = some o) (h1 : o.isCells = false) (h2 : o.isWalk = false) : KpS X n₀ W (W.putObj l o') := fun k hk _ =>
  (belowK_b hn W l o o' hl h h1 h2).block k hk
theorem KpS.of_below {X : Nat → Prop} {n₀ : Nat} {A B : World} (h : Below A.heap.size A B) (hn : n₀ ≤ A.heap.size) : KpS X n₀ A B := fun k hk _ => h.block k (by omega)

structure OfAt (W : World) (X : Nat → Prop) (n₀ Bl Bo b bk lo : Nat) (l : List Att) (k i g : Int) : Prop where
  bl : Bk W Bl 53 #[.pointer (some ⟨b, 0, none⟩)]
  bo : Bk W Bo 25 #[.int .i64 k, .int .i64 i, .int .u32 g]
  led : LedW W b bk lo l
  lb : Bl < n₀
  lo_ : Bo < n₀
  bb : b < n₀
  ft : ∀ g, Foot W bk g → g < n₀ ∧ ¬ X g
  xb : ¬ X Bl
  xo : ¬ X Bo
  xx : ¬ X b
theorem OfAt.kp {W W' : World} {X : Nat → Prop} {n₀ Bl Bo b bk lo : Nat} {l : List Att} {k i g : Int} (h : OfAt W X n₀ Bl Bo b bk lo l k i g) (q : KpS X n₀ W W') : OfAt W' X n₀ Bl Bo b bk lo l k i g := by
  obtain ⟨h1, h2⟩ := h.led.same (q b h.bb h.xx) (fun g hg => q g (h.ft g hg).1 (h.ft g hg).2)
  exact ⟨h.bl.same (q _ h.lb h.xb), h.bo.same (q _ h.lo_ h.xo), h1, h.lb, h.lo_, h.bb, fun g hg => h.ft g ((h2 g).1 hg), h.xb, h.xo, h.xx⟩

end Go.Proofs.YtpinmiplefidpaaGreatDoor.LG

namespace Go.Proofs.YtpinmiplefidpaaGreatDoor.LG
open Go.RowKit Go.Shelf Go.ChangeShapes
attribute [local go_sem] Oper.semAt_some

theorem appended2 {W w1 : World} {n₀ n₁ B : Nat} {t e : TypeId} {size : Nat} {v v' : Value} {k m : Nat} {xs ys : List Value} {tmp : Obj}
    (hv : Boxed W B t v) (hte : t ≠ e) (hrow : W.ownsRow n₁ e size v k xs) (hn₁ : n₁ ≤ W.heap.size) (hB : n₀ ≤ B) (h01 : n₀ ≤ n₁)
    (hown' : w1.ownsRow n₁ e size v' m ys) (hgrow : (W.alloc tmp).grownBy w1 v.ownBlock) :
    Boxed w1 B t v ∧ Boxed (w1.setCell ⟨B, 0, none⟩ v') B t v' ∧ (w1.setCell ⟨B, 0, none⟩ v').ownsRow n₁ e size v' m ys ∧ KeepsOthers W (w1.setCell ⟨B, 0, none⟩ v') ∧ Below n₀ W (w1.setCell ⟨B, 0, none⟩ v') ∧ KpS (· = B) n₁ W (w1.setCell ⟨B, 0, none⟩ v') := by
  have hv1 : Boxed w1 B t v := (hv.alloc tmp).kept hgrow (hv.not_row hte hrow)
  have hge : ∀ j, v.ownBlock = some j → n₁ ≤ j := fun j ej => (hrow.lt j ej).1
  refine ⟨hv1, hv1.set v', hown'.kept (grownBy_setCell' w1 B v') (.inr (hv1.not_row hte hown').symm), ?_, ?_, ?_⟩
  · refine ((KeepsOthers.alloc W tmp).trans (KeepsOthers.of_grownBy hgrow fun j o ej hj => ?_)).trans (KeepsOthers.setCell _ _ _)
    rcases (hrow.alloc tmp).2 with ⟨rfl, _⟩ | ⟨g, cap, cur, rfl, _, hgb, _⟩
    · simp [Value.ownBlock] at ej
    · obtain rfl : g = j := by simpa [Value.ownBlock] using ej
      rw [hgb] at hj; cases hj; rfl
  · exact (((Below.refl n₀ W).alloc (by omega) tmp).grown hgrow (by simp; omega) fun j ej => by have := hge j ej; omega).setCell (p := ⟨B, 0, none⟩) hB v'
  · intro j hj hx
    rw [Below.heap_setCell _ _ _ _ hx, hgrow.block j (by simp; omega) (fun e => by have := hge j e.symm; omega)]
    exact Below.heap_alloc _ _ _ (by omega)



/-- What the two boxes hold that of has laid. -/
theorem boxes (w : World) (p : Option Addr) (k i g : Int) {w2 : World} (h : (w.alloc (.cells #[.pointer p] 53)).alloc (.cells #[.int .i64 k, .int .i64 i, .int .u32 g] 25) = w2) :
    Bk w2 w.heap.size 53 #[.pointer p] ∧ Bk w2 (w.heap.size + 1) 25 #[.int .i64 k, .int .i64 i, .int .u32 g] ∧ w2.heap.size = w.heap.size + 2 ∧ Below w.heap.size w w2 := by
  subst h
  have b1 := (Bk.new w 53 #[.pointer p]).up (.cells #[.int .i64 k, .int .i64 i, .int .u32 g] 25)
  have b2 := Bk.new (w.alloc (.cells #[.pointer p] 53)) 25 #[.int .i64 k, .int .i64 i, .int .u32 g]
  rw [World.size_alloc] at b2
  exact ⟨b1, b2, by simp, (bel_new w _).alloc (by simp) _⟩

end Go.Proofs.YtpinmiplefidpaaGreatDoor.LG

namespace Go.Proofs.YtpinmiplefidpaaGreatDoor.LG
open Go.RowKit Go.Shelf Go.ChangeShapes
attribute [local go_sem] Oper.semAt_some

def prT (_ : Att) : Bool := true
def prE (a : Att) : Bool := !((a.n : Int) == 2)
/-- What first finds. -/
def FindV (pr : Att → Bool) (L : List Att) (w : World) (e : Ending) (w' : World) : Prop :=
  e = .returned (.tuple #[((L.find? pr).getD att0).val, .bool (L.find? pr).isSome]) ∧ Below w.heap.size w w'
def FindX (pr : Att → Bool) (w : World) (c : Code) (pre : List Att) (W : World) : Prop :=
  c = .ret ∧ ∃ (p : List Att) (x : Att), pre = p ++ [x] ∧ (∀ y ∈ p, pr y = false) ∧ pr x = true ∧ (Bk W (w.heap.size + 2) 70 x.cl.toArray ∧ Bk W (w.heap.size + 3) 4 #[.bool true]) ∧ Below w.heap.size w W
theorem find_cells {w W W' : World} {B4 : Nat} {x : Att} (hb : Below W.heap.size W W') (h1 : Bk W B4 70 #[.int .i64 x.t, .int .i64 x.k, .int .i64 x.i, .int .u32 x.g, .int .i64 x.y, .int .i64 x.n])
    (h2 : Bk W (w.heap.size + 2) 70 #[.int .i64 0, .int .i64 0, .int .i64 0, .int .u32 0, .int .i64 0, .int .i64 0]) (h3 : Bk W (w.heap.size + 3) 4 #[.bool false]) :
    (W'.cell? ⟨B4, 0, none⟩ = some (.int .i64 x.t) ∧ W'.cell? ⟨B4, 1, none⟩ = some (.int .i64 x.k) ∧ W'.cell? ⟨B4, 2, none⟩ = some (.int .i64 x.i) ∧ W'.cell? ⟨B4, 3, none⟩ = some (.int .u32 x.g) ∧ W'.cell? ⟨B4, 4, none⟩ = some (.int .i64 x.y) ∧ W'.cell? ⟨B4, 5, none⟩ = some (.int .i64 x.n)) ∧
    (W'.cell? ⟨w.heap.size + 2, 0, none⟩ = some (.int .i64 0) ∧ W'.cell? ⟨w.heap.size + 2, 1, none⟩ = some (.int .i64 0) ∧ W'.cell? ⟨w.heap.size + 2, 2, none⟩ = some (.int .i64 0) ∧ W'.cell? ⟨w.heap.size + 2, 3, none⟩ = some (.int .u32 0) ∧ W'.cell? ⟨w.heap.size + 2, 4, none⟩ = some (.int .i64 0) ∧ W'.cell? ⟨w.heap.size + 2, 5, none⟩ = some (.int .i64 0)) ∧
    W'.cell? ⟨w.heap.size + 3, 0, none⟩ = some (.bool false) ∧
    (W'.frozen? ⟨w.heap.size + 2, 0, none⟩ = false ∧ W'.frozen? ⟨w.heap.size + 2, 1, none⟩ = false ∧ W'.frozen? ⟨w.heap.size + 2, 2, none⟩ = false ∧ W'.frozen? ⟨w.heap.size + 2, 3, none⟩ = false ∧ W'.frozen? ⟨w.heap.size + 2, 4, none⟩ = false ∧ W'.frozen? ⟨w.heap.size + 2, 5, none⟩ = false) ∧
    W'.frozen? ⟨w.heap.size + 3, 0, none⟩ = false := by
  have g1 := h1.below hb
  have g2 := h2.below hb
  have g3 := h3.below hb
  exact ⟨⟨g1.cell 0, g1.cell 1, g1.cell 2, g1.cell 3, g1.cell 4, g1.cell 5⟩, ⟨g2.cell 0, g2.cell 1, g2.cell 2, g2.cell 3, g2.cell 4, g2.cell 5⟩, g3.cell 0, ⟨g2.frozen 0, g2.frozen 1, g2.frozen 2, g2.frozen 3, g2.frozen 4, g2.frozen 5⟩, g3.frozen 0⟩
theorem KeepsFrom.of_below' {B : Nat} {W W' : World} (h : Below W.heap.size W W') : KeepsFrom B W W' := ⟨h.size, fun k _ _ hk _ => (h.block k (Array.getElem?_eq_some_iff.1 hk).1).trans hk⟩
/-- The attempt and true, stored. -/
def stored (W : World) (N : Nat) (a : Att) (f : Bool) : World :=
  ((((((W.setCell ⟨N + 2, 0, none⟩ (.int .i64 a.t)).setCell ⟨N + 2, 1, none⟩ (.int .i64 a.k)).setCell ⟨N + 2, 2, none⟩ (.int .i64 a.i)).setCell ⟨N + 2, 3, none⟩ (.int .u32 a.g)).setCell ⟨N + 2, 4, none⟩ (.int .i64 a.y)).setCell ⟨N + 2, 5, none⟩ (.int .i64 a.n)).setCell ⟨N + 3, 0, none⟩ (.bool f)
theorem stored_facts {w W : World} {a : Att} {f g : Bool} (hBW : Below w.heap.size w W) (h2 : Bk W (w.heap.size + 2) 70 #[.int .i64 0, .int .i64 0, .int .i64 0, .int .u32 0, .int .i64 0, .int .i64 0]) (h3 : Bk W (w.heap.size + 3) 4 #[.bool g]) :
    Bk (stored W w.heap.size a f) (w.heap.size + 2) 70 a.cl.toArray ∧ Bk (stored W w.heap.size a f) (w.heap.size + 3) 4 #[.bool f] ∧ Below w.heap.size w (stored W w.heap.size a f) ∧ KeepsOthers W (stored W w.heap.size a f) := by
  unfold stored
  have hx := (((((h2.put 0 (.int .i64 a.t)).put 1 (.int .i64 a.k)).put 2 (.int .i64 a.i)).put 3 (.int .u32 a.g)).put 4 (.int .i64 a.y)).put 5 (.int .i64 a.n)
  simp only [List.setIfInBounds_toArray, List.set_cons_zero, List.set_cons_succ] at hx
  refine ⟨hx.same (Below.heap_setCell _ _ _ _ (by show w.heap.size + 2 ≠ w.heap.size + 3; omega)), ?_, ?_, ?_⟩
  · have h4 : Bk ((((((W.setCell ⟨w.heap.size + 2, 0, none⟩ (.int .i64 a.t)).setCell ⟨w.heap.size + 2, 1, none⟩ (.int .i64 a.k)).setCell ⟨w.heap.size + 2, 2, none⟩ (.int .i64 a.i)).setCell ⟨w.heap.size + 2, 3, none⟩ (.int .u32 a.g)).setCell ⟨w.heap.size + 2, 4, none⟩ (.int .i64 a.y)).setCell ⟨w.heap.size + 2, 5, none⟩ (.int .i64 a.n)) (w.heap.size + 3) 4 #[.bool g] := by
      refine h3.same ?_
      have hne : w.heap.size + 3 ≠ w.heap.size + 2 := by omega
      rw [Below.heap_setCell _ _ _ _ hne, Below.heap_setCell _ _ _ _ hne, Below.heap_setCell _ _ _ _ hne, Below.heap_setCell _ _ _ _ hne, Below.heap_setCell _ _ _ _ hne, Below.heap_setCell _ _ _ _ hne]
    have h5 := h4.put 0 (.bool f)
    simpa using h5
  · have hle : w.heap.size ≤ w.heap.size + 2 := by omega
    exact ((((((hBW.setCell (p := ⟨_, 0, none⟩) hle _).setCell (p := ⟨_, 1, none⟩) hle _).setCell (p := ⟨_, 2, none⟩) hle _).setCell (p := ⟨_, 3, none⟩) hle _).setCell (p := ⟨_, 4, none⟩) hle _).setCell (p := ⟨_, 5, none⟩) hle _).setCell (p := ⟨w.heap.size + 3, 0, none⟩) (by simp) _
  · exact ((((((KeepsOthers.setCell _ _ _).trans (KeepsOthers.setCell _ _ _)).trans (KeepsOthers.setCell _ _ _)).trans (KeepsOthers.setCell _ _ _)).trans (KeepsOthers.setCell _ _ _)).trans (KeepsOthers.setCell _ _ _)).trans (KeepsOthers.setCell _ _ _)
theorem find_hit {pr : Att → Bool} {w W w3 : World} {B : Nat} {pre : List Att} {x : Att} (hBW : Below w.heap.size w W) (hno : ∀ y ∈ pre, pr y = false) (hpx : pr x = true) (_ : w.heap.size + 6 ≤ W.heap.size) (hb3 : Below W.heap.size W w3)
    (h2 : Bk W (w.heap.size + 2) 70 #[.int .i64 0, .int .i64 0, .int .i64 0, .int .u32 0, .int .i64 0, .int .i64 0]) (h3 : Bk W (w.heap.size + 3) 4 #[.bool false]) : KeepsFrom B W (stored w3 w.heap.size x true) ∧ FindX pr w .ret (pre ++ [x]) (stored w3 w.heap.size x true) := by
  have hB3 := bel2 hBW hb3
  obtain ⟨h4, h5, h6, h7⟩ := stored_facts (a := x) (f := true) hB3 (h2.below hb3) (h3.below hb3)
  exact ⟨⟨Nat.le_trans hb3.size h7.size, fun k o _ h ho => h7.same k o ((hb3.block k (Array.getElem?_eq_some_iff.1 h).1).trans h) ho⟩, rfl, pre, x, rfl, hno, hpx, ⟨h4, h5⟩, h6⟩


end Go.Proofs.YtpinmiplefidpaaGreatDoor.LG

namespace Go.Proofs.YtpinmiplefidpaaGreatDoor.LG
open Go.RowKit Go.Shelf Go.ChangeShapes

/-! ### First, Ended -/
theorem find_t (L : List Att) : L.find? prT = L.head? := by cases L <;> simp [prT, List.find?]
theorem find_e (L : List Att) : L.find? prE = L.find? (fun a => decide (a.n ≠ 2)) := by
  congr 1
  funext a
  unfold prE
  by_cases h : a.n = 2 <;> simp [h]
def FirstV (L : List Att) (w : World) (e : Ending) (w' : World) : Prop := e = .returned (.tuple #[(firstOf L).val, .bool !L.isEmpty]) ∧ Below w.heap.size w w'
def EndV (L : List Att) (w : World) (e : Ending) (w' : World) : Prop := e = .returned (.tuple #[.int .i64 (endOf L), .bool (isEnd L)]) ∧ Below w.heap.size w w'

/-! ### Copy -/
/-- A new ledger that holds l; all its blocks are new. -/
def CopyV (l : List Att) (w : World) (e : Ending) (w' : World) : Prop := ∃ b bk, e = .returned (.pointer (some ⟨b, 0, none⟩)) ∧ w.heap.size ≤ b ∧ LedW w' b bk w.heap.size l ∧ Below w.heap.size w w'
set_option maxRecDepth 100000 in
theorem copy_no (p : Option Addr) (w : World) (h : Inv w p) : Calls Tryz.prog 86 #[.pointer p] w fun e w' => e = .returned (.pointer none) ∧ w = w' := by
  go_enter Tryz.func86, Tryz.ntmps86
  go_wp2_with (go_at_call 98; refine (valid_no _ _ h).mono ?_; rintro e w' ⟨rfl, rfl⟩)
  go_ret
  exact ⟨rfl, rfl⟩
set_option maxRecDepth 100000 in
set_option maxHeartbeats 2000000 in
theorem copy_ok (b bk lo : Nat) (l : List Att) (w : World) (h : LedW w b bk lo l) : Calls Tryz.prog 86 #[.pointer (some ⟨b, 0, none⟩)] w (CopyV l w) := by
  have H := Lib.hid h
  have hc := h.cell
  have hlen := h.len
  have hlt0 := h.hb.lt
  obtain ⟨m, v, hBk⟩ := h.book
  obtain ⟨sa, sc, rfl, k0, k1, _, hrd⟩ := hBk.cells
  have HRD := Lib.hid hrd
  obtain ⟨_, hcap, hcm, _⟩ := hrd.cap
  clear h hBk hrd k1
  go_enter Tryz.func86, Tryz.ntmps86
  go_wp2_with (go_at_call 98; refine (valid_yes _ _ _ hc).mono ?_; rintro e w' ⟨rfl, rfl⟩)
  refine (new_ok _).mono ?_
  rintro e w1 ⟨rfl, hn, hb⟩
  have HN := Lib.hid hn
  have HB := Lib.hid hb
  have hc1 := cell_stays hb hc
  have k2 := cell_stays hb k0
  clear hc k0 hn hb
  go_wp2
  go_loopw [18] (fun i wr => ∃ j : Nat, j ≤ l.length ∧ i = .int .i64 j ∧ Hid (LedW wr (w.heap.size + 2) (w.heap.size + 1) w.heap.size (l.take j)) ∧ Hid (Below w.heap.size w wr)) (fun i _ => l.length - (intOf i).toNat)
  case atStart => exact ⟨0, Nat.zero_le _, rfl, HN, HB⟩
  case round =>
    obtain ⟨j, hj, rfl, HL, HBr⟩ := hrel
    by_cases hlt : j < l.length
    · obtain ⟨gl, off, rfl, hgl, hsix⟩ := (HRD.out.below HBr.out).cell hlt
      have hok : l[j].Ok := H.out.ok _ (List.getElem_mem hlt)
      have hsn : l.take (j + 1) = l.take j ++ [l[j]] := List.take_succ_eq_append_getElem hlt
      have HSN := Lib.hid hsn
      have HOK := Lib.hid hok
      clear hsn hok
      generalize l[j] = x at *
      obtain ⟨c0, c1, c2, c3, c4, c5⟩ := hsix
      have hW3 := bel_new wr (.cells #[.int .i64 x.t, .int .i64 x.k, .int .i64 x.i, .int .u32 x.g, .int .i64 x.y, .int .i64 x.n] 70)
      have hL3 := (HL.out.below hW3).1
      have hbx : Bk (wr.alloc (.cells #[.int .i64 x.t, .int .i64 x.k, .int .i64 x.i, .int .u32 x.g, .int .i64 x.y, .int .i64 x.n] 70)) wr.heap.size 70 x.cl.toArray := Bk.new wr _ _
      obtain ⟨m3, v3, hB3⟩ := hL3.book
      have hc3 := hL3.cell
      obtain ⟨d0, d1, d2, d3, d4, d5⟩ := six_new hbx
      simp only [Nat.zero_add] at d0 d1 d2 d3 d4 d5
      have HL3 := Lib.hid hL3
      have HB3 := Lib.hid hB3
      have HBW := Lib.hid (bel2 HBr.out hW3)
      have hpl : (l.take j).length < 10000 := by rw [List.length_take]; omega
      have HPL := Lib.hid hpl
      clear hL3 hB3 hW3 hbx hpl hc1 k2
      go_wp2
      generalize wr.alloc (.cells #[.int .i64 x.t, .int .i64 x.k, .int .i64 x.i, .int .u32 x.g, .int .i64 x.y, .int .i64 x.n] 70) = W3 at *
      clear c0 c1 c2 c3 c4 c5
      go_still_tail 5, (by kernel_rfl)
      change wpList _ _ _ _ _ W3.drew
      go_wp2_with (go_at_call 112; refine (put_ok _ m3 _ v3 (l.take j) x _ (HB3.out.below (bel_drew (Below.refl _ _))).1 HOK.out HPL.out).mono ?_; rintro e w' ⟨rfl, hp⟩)
      have HN2 : Hid (LedW w' (w.heap.size + 2) (w.heap.size + 1) w.heap.size (l.take (j + 1)) ∧ Below w.heap.size w w') := by
        obtain ⟨p1, p2, p3⟩ := hp
        have hd := HL3.out.below (w' := W3.drew) (bel_drew (Below.refl _ _))
        refine ⟨?_, (bel_drew HBW.out).trans ?_⟩
        · rw [HSN.out]
          exact ⟨hd.1.hb.kept p2 hd.1.not_foot, m3, p1⟩
        · exact p2.below (by have := HBW.out.size; exact this) (fun k hk => (hd.1.foot_le hk).1)
      clear hp
      go_wp2
      go_roundw
      case rel => exact ⟨j + 1, by omega, by go_num, HN2.out.1, HN2.out.2⟩
      case measure => simp [intOf]; omega
    · obtain rfl : j = l.length := by omega
      clear hlt
      go_wp2
      go_ret
      have hl := HL.out
      rw [List.take_length] at hl
      exact ⟨_, _, rfl, by omega, hl, HBr.out⟩
end Go.Proofs.YtpinmiplefidpaaGreatDoor.LG
