/- What the listed variables hold, as the walks use it; strings; the contract of FormatInt. -/
import Derived.Test.YtenggngcigkakaaGreatDoorDd
import Derived.Test.YtenggngcigkakaaGreatDoorDp
import Derived.Test.YtenggngcigkakaaGreatDoorDb
namespace Go.Proofs.YtenggngcigkakaaGreatDoor
open Go.RowKit

theorem Sent.below {w w' : World} (h : Sent w) (hb : Below w.heap.size w w') : Sent w' := by
  have key : ∀ (n : String) (cs : Array Value), w.var? Tryz.prog n = some cs → w'.var? Tryz.prog n = some cs := fun n cs hv => by
    cases hg : Tryz.prog.globalNamed n with
    | none => simp [World.var?, hg] at hv
    | some g =>
      refine var?_below hb hg ?_ hv
      rcases Nat.lt_or_ge g w.heap.size with h' | h'
      · exact h'
      · simp [World.var?, hg, Array.getElem?_eq_none h'] at hv
  obtain ⟨⟨t1, p1, h1⟩, ⟨t2, p2, h2⟩⟩ := h
  exact ⟨⟨t1, p1, key _ _ h1⟩, ⟨t2, p2, key _ _ h2⟩⟩

/-- What the variables that the program reads hold. -/
structure Env (w : World) : Prop where
  tab : Tab w
  sent : Sent w
  l1 : w.cell? ⟨6, 0, none⟩ = some (.string ⟨#[102]⟩)
  l2 : w.cell? ⟨6, 1, none⟩ = some (.string ⟨#[98]⟩)
  l3 : w.cell? ⟨6, 2, none⟩ = some (.string ⟨#[108]⟩)
  ml : ∃ m : Int, w.cell? ⟨2, 0, none⟩ = some (.int .i64 m)

theorem cell_stays {w w' : World} (hb : Below w.heap.size w w') {b o : Nat} {v : Value} (h : w.cell? ⟨b, o, none⟩ = some v) : w'.cell? ⟨b, o, none⟩ = some v :=
  (hb.cell (p := ⟨b, o, none⟩) (World.block_lt_of_cell? _ _ h)).trans h

theorem Env.below {w w' : World} (h : Env w) (hb : Below w.heap.size w w') : Env w' :=
  ⟨h.tab.below hb, h.sent.below hb, cell_stays hb h.l1, cell_stays hb h.l2, cell_stays hb h.l3, by obtain ⟨m, hm⟩ := h.ml; exact ⟨m, cell_stays hb hm⟩⟩

theorem fmtInt (p : Nat) (hp : p ≤ 1000) (w : World) (he : Env w) :
    Calls Tryz.prog 85 #[.int .i64 p, .int .i64 10] w fun e w' => e = .returned (.string ⟨(Lib.decDigits p).toArray⟩) ∧ Below w.heap.size w w' := by
  refine (Tryz.strconv_FormatInt_10 (p : Int) (by omega) (by omega) w he.tab).mono ?_
  rintro e w' ⟨rfl, k, os, rfl⟩
  exact ⟨by rw [Lib.itoa_nonneg], Lib.below_grow _ _ (Nat.le_refl _) _ _⟩

/-- A name's text out of its pieces. -/
theorem cat_txt (m : UInt8) (k p g : Nat) : (⟨#[letter k]⟩ : ByteArray) ++ ⟨(Lib.decDigits p).toArray⟩ ++ ⟨#[m]⟩ ++ ⟨(Lib.decDigits g).toArray⟩ = ⟨(txt m k p g).toArray⟩ := by
  apply ByteArray.ext
  simp [txt]
end Go.Proofs.YtenggngcigkakaaGreatDoor
