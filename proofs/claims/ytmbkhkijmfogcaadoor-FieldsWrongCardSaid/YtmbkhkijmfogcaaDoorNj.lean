/- What the listed variables hold, as the walks use it; the contracts of Itoa, refText and Text of the program. -/
import Derived.Test.YtmbkhkijmfogcaaDoorDd
import Derived.Test.YtmbkhkijmfogcaaDoorDb
import Derived.Test.YtmbkhkijmfogcaaDoorNi
import Derived.Deep.RegionWith
import Derived.StillTailTactics
import Derived.IntWalk
import Derived.Laws.ResultCell
namespace Go.Proofs.YtmbkhkijmfogcaaDoor
open Go.RowKit

theorem Sent.below {w w' : World} (h : Sent w) (hb : Below w.heap.size w w') : Sent w' := by
  have key : ∀ (n : String) (cs : Array Value), w.var? Tryd.prog n = some cs → w'.var? Tryd.prog n = some cs := fun n cs hv => by
    cases hg : Tryd.prog.globalNamed n with
    | none => simp [World.var?, hg] at hv
    | some g =>
      refine var?_below hb hg ?_ hv
      rcases Nat.lt_or_ge g w.heap.size with h' | h'
      · exact h'
      · simp [World.var?, hg, Array.getElem?_eq_none h'] at hv
  obtain ⟨⟨t1, p1, h1⟩, ⟨t2, p2, h2⟩⟩ := h
  exact ⟨⟨t1, p1, key _ _ h1⟩, ⟨t2, p2, key _ _ h2⟩⟩

/-- What the variables that the program reads hold. -/
structure Env (w : World) : Prop where
  tab : Tab w
  sent : Sent w
  ml : ∃ m : Int, w.cell? ⟨0, 0, none⟩ = some (.int .i64 m)
theorem cell_stays {w w' : World} (hb : Below w.heap.size w w') {b o : Nat} {v : Value} (h : w.cell? ⟨b, o, none⟩ = some v) : w'.cell? ⟨b, o, none⟩ = some v :=
  (hb.cell (p := ⟨b, o, none⟩) (World.block_lt_of_cell? _ _ h)).trans h
theorem Env.below {w w' : World} (h : Env w) (hb : Below w.heap.size w w') : Env w' :=
  ⟨h.tab.below hb, h.sent.below hb, by obtain ⟨m, hm⟩ := h.ml; exact ⟨m, cell_stays hb hm⟩⟩

theorem itoa_ok (p : Nat) (hp : p ≤ 1000) (w : World) (he : Env w) :
    Calls Tryd.prog 43 #[.int .i64 p] w fun e w' => e = .returned (.string ⟨(Lib.decDigits p).toArray⟩) ∧ Below w.heap.size w w' := by
  refine (Tryd.strconv_Itoa (p : Int) (by omega) (by omega) w he.tab).mono ?_
  rintro e w' ⟨rfl, k, os, rfl⟩
  exact ⟨by rw [Lib.itoa_nonneg], Lib.below_grow _ _ (Nat.le_refl _) _ _⟩

theorem cat_ref (s g : Nat) : (⟨(Lib.decDigits s).toArray⟩ : ByteArray) ++ ⟨#[46]⟩ ++ ⟨(Lib.decDigits g).toArray⟩ = ⟨(Lib.decDigits s ++ 46 :: Lib.decDigits g).toArray⟩ := by
  apply ByteArray.ext
  simp
theorem digs_size (u : Nat) (h : u ≤ 4294967295) : (⟨(Lib.decDigits u).toArray⟩ : ByteArray).size ≤ 20 := decBytes_size u h
/-- A reference that is possible, by natural numbers. -/
theorem rfok_nat {r : Rf} (h : RfOk r) (h0 : r ≠ (0, 0)) : ∃ s g : Nat, r = ((s : Int), (g : Int)) ∧ s < 256 ∧ 1 ≤ g ∧ g ≤ 4294967295 ∧ rtxt r = Lib.decDigits s ++ 46 :: Lib.decDigits g := by
  obtain ⟨a, b⟩ := r
  rcases h with h | h
  · exact absurd h h0
  simp only at h
  obtain ⟨s, rfl⟩ : ∃ s : Nat, a = s := ⟨a.toNat, by omega⟩
  obtain ⟨g, rfl⟩ : ∃ g : Nat, b = g := ⟨b.toNat, by omega⟩
  refine ⟨s, g, rfl, by omega, by omega, by omega, ?_⟩
  rw [rtxt_some h0]
  simp

set_option maxHeartbeats 1000000 in
set_option maxRecDepth 100000 in
theorem rtext_ok (r : Rf) (h : RfOk r) (w : World) (he : Env w) : Calls Tryd.prog 33 #[rfv r] w fun e w' => e = .returned (.string ⟨(rtxt r).toArray⟩) ∧ Below w.heap.size w w' := by
  by_cases h0 : r = (0, 0)
  · subst h0
    have HN := Lib.hid (isNone_ok (0, 0))
    rw [noneB_iff.2 rfl] at HN
    unfold rfv rfc at HN ⊢
    simp only at HN ⊢
    go_enter Tryd.func33, Tryd.ntmps33
    go_wp2_with fail
    refine (HN.out _).mono ?_
    rintro e w1 ⟨rfl, hb1⟩
    go_wp2
    go_ret
    exact ⟨rfl, bel2 ((Below.refl _ _).alloc (Nat.le_refl _) _) hb1⟩
  · have HN := Lib.hid (isNone_ok r)
    rw [noneB_no h0] at HN
    obtain ⟨s, g, rfl, hs, hg1, hg2, ht⟩ := rfok_nat h h0
    rw [ht, ← cat_ref]
    have HE := Lib.hid he
    have hs1 := digs_size s (by omega)
    have hs2 := digs_size g (by omega)
    have hs1' : (Lib.decDigits s).length ≤ 10 := (digits_len s (by omega)).2
    have hs2' : (Lib.decDigits g).length ≤ 10 := (digits_len g (by omega)).2
    clear h h0 ht he
    unfold rfv rfc at HN ⊢
    simp only at HN ⊢
    go_enter Tryd.func33, Tryd.ntmps33
    go_wp2_with fail
    refine (HN.out _).mono ?_
    rintro e w1 ⟨rfl, hb1⟩
    have HB1 := Lib.hid (bel2 ((Below.refl _ _).alloc (Nat.le_refl _) _) hb1 : Below w.heap.size w w1)
    have hc : w1.cell? ⟨w.heap.size, 0, none⟩ = some (.int .i64 s) := by rw [hb1.cell (p := ⟨w.heap.size, 0, none⟩) (by simp)]; go_simp
    have hc1 : w1.cell? ⟨w.heap.size, 1, none⟩ = some (.int .u32 g) := by rw [hb1.cell (p := ⟨w.heap.size, 1, none⟩) (by simp)]; go_simp
    have HE1 := Lib.hid (HE.out.below HB1.out)
    clear hb1
    go_wp2_with fail
    refine (text_ok g hg1 hg2 _ (.inr HE1.out.tab)).mono ?_
    rintro e w2 ⟨rfl, hb2⟩
    have HC2 := Lib.hid (cell_stays hb2 hc)
    have HB2 := Lib.hid (bel2 HB1.out hb2)
    have HE2 := Lib.hid (HE1.out.below hb2)
    clear hc hc1 hb2
    have hc := HC2.out
    go_wp2_with fail
    refine (itoa_ok s (by omega) _ HE2.out).mono ?_
    rintro e w3 ⟨rfl, hb3⟩
    go_wp2
    go_ret
    exact ⟨rfl, bel2 HB2.out hb3⟩
end Go.Proofs.YtmbkhkijmfogcaaDoor
