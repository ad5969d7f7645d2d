/- What the rows' condition on the listed variables gives: the letters of the answers, the words; one start that meets it; a resource, a step, a []Step, a []uint8 and a []bool among the arguments; the last step of a law. -/
import Derived.Test.YtpinmiplefidpaaGreatDoorOu
import Derived.Lay
import Derived.Deep.Strs
import Derived.LaidOnce
import Derived.ProofKit
import Derived.LaidMore
import Derived.OpenShut
import Derived.Stop.Joined
import Derived.Lib.LaidTab
import Derived.Lib.LaidU8
import Derived.Shelf.Vars
import Derived.SevenTiedAt
import Derived.SizedLaws
import Derived.Lib.SmallJoins
import Derived.Deep.Matrix
import Derived.Deep.SlicePairs
import Derived.Carry
namespace Go.Proofs.YtpinmiplefidpaaGreatDoor
open Go.ChangeShapes Go.WideShapes Go.ChangeAt Go.RowKit

theorem own : ownKnob Tryz.prog.godebug = none := by kernel_rfl
theorem laidOut : laidOutB Tryz.prog = true := by kernel_rfl
def laidList : List (String × DataW Unit) := [("estray/answer.letters", Rows.laid_estray_answer_letters), ("estray/ledger.whys", Rows.laid_estray_ledger_whys), ("estray/ledger.answers", Rows.laid_estray_ledger_answers)]

theorem door_met (os : Os) (args : Array Value) : laidMetH Tryz.prog laidList ((World.laidAll Tryz.prog os laidList).forCall (fun _ _ => 0) ⟨#[], args, []⟩).memory := by
  rw [MakeChecks.laidMetH_plain _ _ _ (by kernel_rfl)]
  exact laidMet_laidAll _ (by kernel_rfl) (by kernel_rfl)

/-- An array of numbers that reads as a list holds these numbers, cell for cell. -/
theorem cells_of_ints {H : Type} {enc : TypeId × Value → H} {P : Program} {w : World} {base : Nat} {sp : Nat → Bool} {held : Bool} {fuel : Nat} {t e : TypeId} {k : IntKind} {n : Nat} {cs : List Value} {zs : List Int} {p : List MemPlace}
    (ht : P.underlying t = some (.array n e)) (he : P.underlying e = some (.int k)) (hce : P.cellsOf e = 1) (hct : P.cellsOf t = n)
    (h : DataW.trod enc P w base sp held fuel t cs = some (.agg (zs.map fun z => .lit (.int k z)), p)) : cs = zs.map fun z => Value.int k z := by
  cases fuel with
  | zero => simp [DataW.trod] at h
  | succ fuel =>
    simp only [DataW.trod, ht, hce, hct, Nat.mul_one] at h
    split at h
    · rename_i hl
      obtain ⟨xs, hm, hx⟩ := Option.map_eq_some_iff.1 h
      have hxs : xs.map (·.1) = zs.map fun z => (DataW.lit (.int k z) : DataW H) := by
        have := congrArg Prod.fst hx
        simpa using this
      have hxl : xs.length = n := by simpa using Lib.mapM_length hm
      have hzl : zs.length = n := by
        have := congrArg List.length hxs
        simp at this
        omega
      apply List.ext_getElem?
      intro i
      by_cases hi : i < n
      · obtain ⟨b, hb, hf⟩ := Lib.mapM_at hm i i (by simp [hi])
        obtain ⟨z, hc, rfl, _⟩ := DataW.trod_int he hf
        have h1 : cs[i]? = some (.int k z) := by
          have := congrArg (·[0]?) hc
          simpa [List.getElem?_take, List.getElem?_drop] using this
        have h2 : (xs.map (·.1))[i]? = some (DataW.lit (.int k z) : DataW H) := by simp [hb]
        rw [hxs] at h2
        simp only [List.getElem?_map, Option.map_eq_some_iff, DataW.lit.injEq, Lit.int.injEq] at h2
        obtain ⟨z', hz', _, h3⟩ := h2
        simp [h1, hz', h3]
      · rw [List.getElem?_eq_none (by omega), List.getElem?_eq_none (by simp; omega)]
    · cases h


/-- An array of strings that reads as a list of texts holds these texts, cell for cell. -/
theorem cells_of_strs {H : Type} {enc : TypeId × Value → H} {P : Program} {w : World} {base : Nat} {sp : Nat → Bool} {held : Bool} {fuel : Nat} {t e : TypeId} {n : Nat} {cs : List Value} {zs : List (List UInt8)} {p : List MemPlace}
    (ht : P.underlying t = some (.array n e)) (he : P.underlying e = some .string) (hce : P.cellsOf e = 1) (hct : P.cellsOf t = n)
    (h : DataW.trod enc P w base sp held fuel t cs = some (.agg (zs.map fun z => .lit (.string z)), p)) : cs = zs.map fun z => Value.string ⟨z.toArray⟩ := by
  cases fuel with
  | zero => simp [DataW.trod] at h
  | succ fuel =>
    simp only [DataW.trod, ht, hce, hct, Nat.mul_one] at h
    split at h
    · rename_i hl
      obtain ⟨xs, hm, hx⟩ := Option.map_eq_some_iff.1 h
      have hxs : xs.map (·.1) = zs.map fun z => (DataW.lit (.string z) : DataW H) := by
        have := congrArg Prod.fst hx
        simpa using this
      have hxl : xs.length = n := by simpa using Lib.mapM_length hm
      have hzl : zs.length = n := by
        have := congrArg List.length hxs
        simp at this
        omega
      apply List.ext_getElem?
      intro i
      by_cases hi : i < n
      · obtain ⟨b, hb, hf⟩ := Lib.mapM_at hm i i (by simp [hi])
        obtain ⟨z, hc, rfl, _⟩ := DataW.trod_string he hf
        have h1 : cs[i]? = some (.string z) := by
          have := congrArg (·[0]?) hc
          simpa [List.getElem?_take, List.getElem?_drop] using this
        have h2 : (xs.map (·.1))[i]? = some (DataW.lit (.string z.data.toList) : DataW H) := by simp [hb]
        rw [hxs] at h2
        simp only [List.getElem?_map, Option.map_eq_some_iff, DataW.lit.injEq, Lit.string.injEq] at h2
        obtain ⟨z', hz', h3⟩ := h2
        have h4 : z = ⟨z'.toArray⟩ := by apply ByteArray.ext; rw [h3]
        simp [h1, hz', h4]
      · rw [List.getElem?_eq_none (by omega), List.getElem?_eq_none (by simp; omega)]
    · cases h


theorem anletters_eq : Rows.laid_estray_answer_letters = (.agg (([0, 111, 108, 102] : List Int).map fun z => .lit (.int .u8 z)) : DataW Unit) := rfl

theorem whys_eq : Rows.laid_estray_ledger_whys = (.agg (([[], [99, 108, 111, 115, 101], [101, 120, 112, 105, 114, 121], [99, 111, 108, 108, 101, 99, 116]] : List (List UInt8)).map fun z => .lit (.string z)) : DataW Unit) := rfl
theorem answers_eq : Rows.laid_estray_ledger_answers = (.agg (([[], [111, 107], [108, 97, 116, 101, 114], [102, 97, 105, 108]] : List (List UInt8)).map fun z => .lit (.string z)) : DataW Unit) := rfl

theorem env_of_laid {W : World} (h0 : laidMetH Tryz.prog laidList W) : OEnv W := by
  rw [MakeChecks.laidMetH_plain _ _ _ (by kernel_rfl)] at h0
  have hl : Lib.VarReads Tryz.prog W "estray/answer.letters" (.agg (([0, 111, 108, 102] : List Int).map fun z => .lit (.int .u8 z))) := anletters_eq ▸ Lib.laidMet.reads h0 (.head _)
  have hy : Lib.VarReads Tryz.prog W "estray/ledger.whys" (.agg (([[], [99, 108, 111, 115, 101], [101, 120, 112, 105, 114, 121], [99, 111, 108, 108, 101, 99, 116]] : List (List UInt8)).map fun z => .lit (.string z))) := whys_eq ▸ Lib.laidMet.reads h0 (.tail _ (.head _))
  have hn : Lib.VarReads Tryz.prog W "estray/ledger.answers" (.agg (([[], [111, 107], [108, 97, 116, 101, 114], [102, 97, 105, 108]] : List (List UInt8)).map fun z => .lit (.string z))) := answers_eq ▸ Lib.laidMet.reads h0 (.tail _ (.tail _ (.head _)))
  obtain ⟨g, t, cs, fuel, p, hg, ht, hvar, htr⟩ := hl
  obtain rfl : g = 2 := (Option.some.inj ((show Tryz.prog.globalNamed "estray/answer.letters" = some 2 by kernel_rfl).symm.trans hg)).symm
  obtain rfl : t = 229 := (Option.some.inj ((show (Tryz.prog.globals[2]?).map (·.type) = some 229 by kernel_rfl).symm.trans ht)).symm
  have hcs := cells_of_ints Tryz.underlying229 Tryz.underlying5 (by kernel_rfl) (by kernel_rfl) htr
  have hc : ∀ i, W.cell? ⟨2, i, none⟩ = cs[i]? := fun i => World.var?_cell hg hvar i
  have hcs' : cs = #[.int .u8 0, .int .u8 111, .int .u8 108, .int .u8 102] := by
    apply Array.toList_inj.1
    rw [hcs]
    rfl

  obtain ⟨g2, t2, cs2, fuel2, p2, hg2, ht2, hvar2, htr2⟩ := hy
  obtain rfl : g2 = 0 := (Option.some.inj ((show Tryz.prog.globalNamed "estray/ledger.whys" = some 0 by kernel_rfl).symm.trans hg2)).symm
  obtain rfl : t2 = 146 := (Option.some.inj ((show (Tryz.prog.globals[(0 : Nat)]?).map (·.type) = some 146 by kernel_rfl).symm.trans ht2)).symm
  have hcs2 := cells_of_strs Tryz.underlying146 Tryz.underlying9 (by kernel_rfl) (by kernel_rfl) htr2
  have hc2 : ∀ i, W.cell? ⟨0, i, none⟩ = cs2[i]? := fun i => World.var?_cell hg2 hvar2 i
  have hcs2' : cs2 = #[.string ⟨#[]⟩, .string ⟨#[99, 108, 111, 115, 101]⟩, .string ⟨#[101, 120, 112, 105, 114, 121]⟩, .string ⟨#[99, 111, 108, 108, 101, 99, 116]⟩] := by
    apply Array.toList_inj.1
    rw [hcs2]
    rfl
  obtain ⟨g3, t3, cs3, fuel3, p3, hg3, ht3, hvar3, htr3⟩ := hn
  obtain rfl : g3 = 1 := (Option.some.inj ((show Tryz.prog.globalNamed "estray/ledger.answers" = some 1 by kernel_rfl).symm.trans hg3)).symm
  obtain rfl : t3 = 146 := (Option.some.inj ((show (Tryz.prog.globals[(1 : Nat)]?).map (·.type) = some 146 by kernel_rfl).symm.trans ht3)).symm
  have hcs3 := cells_of_strs Tryz.underlying146 Tryz.underlying9 (by kernel_rfl) (by kernel_rfl) htr3
  have hc3 : ∀ i, W.cell? ⟨1, i, none⟩ = cs3[i]? := fun i => World.var?_cell hg3 hvar3 i
  have hcs3' : cs3 = #[.string ⟨#[]⟩, .string ⟨#[111, 107]⟩, .string ⟨#[108, 97, 116, 101, 114]⟩, .string ⟨#[102, 97, 105, 108]⟩] := by
    apply Array.toList_inj.1
    rw [hcs3]
    rfl

  refine ⟨⟨?_, ?_, ?_, ?_⟩, ⟨?_, ?_, ?_, ?_⟩, ⟨?_, ?_, ?_, ?_⟩⟩
  · rw [hc, hcs']; rfl
  · rw [hc, hcs']; rfl
  · rw [hc, hcs']; rfl
  · rw [hc, hcs']; rfl
  · rw [hc2, hcs2']; rfl
  · rw [hc2, hcs2']; rfl
  · rw [hc2, hcs2']; rfl
  · rw [hc2, hcs2']; rfl
  · rw [hc3, hcs3']; rfl
  · rw [hc3, hcs3']; rfl
  · rw [hc3, hcs3']; rfl
  · rw [hc3, hcs3']; rfl

/-- A law's last step, where its arguments lead to no memory and the call has made new blocks alone. -/
theorem post_law {H : Type} {enc : TypeId × Value → H} {P : Program} {f : Func} {s : ChangeSpec} {W W' : World} {args : Array Value} {v : Value} {ds : List (DataW H)}
    (hW : DataW.Whole enc P f.params.toList s.vars false W args.toList ds [] [])
    (hres : ∀ (b : Nat) (sp : Nat → Bool) (hd : Bool), DataW.TrodAll enc P W' b sp hd f.resultTypes.toList (v.resultList f.resultTypes.size) (s.fn H (ds ++ [])).results [])
    (hargs : ∀ sp : Nat → Bool, DataW.TrodAll enc P W' 0 sp true f.params.toList args.toList (s.fn H (ds ++ [])).args [])
    (hvars : ∀ sp : Nat → Bool, DataW.TrodVars enc P W' sp s.vars (s.fn H (ds ++ [])).vars [])
    (hb : Below W.heap.size W W') : s.post enc P f false true false false W args v W' :=
  ⟨ds, [], [], [], [], [], hW, hres _ _ _, hargs _, hvars _, World.keptBut_mono (fun p hp => by cases hp) (hb.frame (fun _ => False)), fun h => by cases h⟩


set_option maxRecDepth 100000 in
theorem outer_of {H : Type} {enc : TypeId × Value → H} {W : World} {r : Reach} {b0 : Nat} {v : Value} {d : DataW H} {p : List MemPlace} (hv : Value.okWide Tryz.prog W r b0 25 v) (h : DataW.Trod enc Tryz.prog W 0 (fun _ => true) true 25 v d p) : ∃ i j g : Int, v = .agg #[.int .i64 i, .int .i64 j, .int .u32 g] ∧ RgO i j g := by
  obtain ⟨c0, c1, c2, y0, y1, y2, m, rfl, _, _, h0, h1, h2⟩ := Go.Joins.open_agg3 Tryz.underlying25 (by kernel_rfl) (by kernel_rfl) hv h
  obtain ⟨x, e1, _, w1⟩ := DataW.trod_int (t := 3) Tryz.underlying3 h0
  obtain ⟨y, e2, _, w2⟩ := DataW.trod_int (t := 3) Tryz.underlying3 h1
  obtain ⟨z, e3, _, w3⟩ := DataW.trod_int (t := 22) Tryz.underlying22 h2
  simp at e1 e2 e3
  subst e1 e2 e3
  have q1 := bounds_i64 w1
  have q2 := bounds_i64 w2
  have q3 := bounds_u32 w3
  exact ⟨x, y, z, rfl, ⟨q1.1, q1.2, q2.1, q2.2, q3.1, q3.2⟩⟩

/-- What a parameter of bytes holds. -/
structure Bys (w : World) (a : Option Addr) (len : Nat) (s : Nat → Int) : Prop where
  at_ : 0 < len → ∃ b off, a = some ⟨b, off, none⟩ ∧ b < w.heap.size ∧ ∀ j, j < len → w.cell? ⟨b, off + j, none⟩ = some (.int .u8 (s j))
  bd : ∀ j, 0 ≤ s j ∧ s j ≤ 255
theorem Bys.below {w w' : World} {a : Option Addr} {len : Nat} {s : Nat → Int} (h : Bys w a len s) (hb : Below w.heap.size w w') : Bys w' a len s :=
  ⟨fun h0 => by
    obtain ⟨b, off, e, h1, h2⟩ := h.at_ h0
    exact ⟨b, off, e, Nat.lt_of_lt_of_le h1 hb.size, fun j hj => cell_keeps hb (h2 j hj)⟩, h.bd⟩
theorem cells_u8 : Tryz.prog.cellsOf 5 = 1 := by kernel_rfl
theorem u8s_of {H : Type} {enc : TypeId × Value → H} {W : World} {a : Option Addr} {len cap : Nat} {d : DataW H} {p : List MemPlace} (h : DataW.Trod enc Tryz.prog W 0 (fun _ => true) true 73 (.slice a len cap) d p) : len ≤ cap ∧ cap ≤ 9223372036854775807 ∧ ∃ l, Bys W a len l := by
  obtain ⟨fuel, hf⟩ := h
  rcases open_ints Tryz.underlying73 Tryz.underlying5 cells_u8 hf with ⟨hcs, hx⟩ | ⟨a', len', cap', zs, hcs, _, hl, hm, hz, hx, hcell, hwz⟩
  · simp [Value.cells] at hcs
    obtain ⟨rfl, rfl, rfl⟩ := hcs
    exact ⟨Nat.le_refl _, by omega, fun _ => 0, fun h => by omega, fun _ => by omega⟩
  · simp [Value.cells] at hcs
    obtain ⟨rfl, rfl, rfl⟩ := hcs
    simp only [if_true] at hz
    refine ⟨hl, by unfold maxLen at hm; omega, fun j => zs.getD j 0, fun h0 => ?_, fun j => ?_⟩
    · obtain ⟨b, off, spot⟩ := a'
      have h1 := hcell 0 (by omega)
      have hspot : spot = none := by simpa [Addr.add] using World.cell?_spot h1
      subst hspot
      rw [add_plain] at h1
      refine ⟨b, off, rfl, World.block_lt_of_cell? _ _ h1, fun j hj => ?_⟩
      have := hcell j (by omega)
      rw [add_plain] at this
      exact this
    · by_cases hj : j < zs.length
      · have e : zs.getD j 0 = zs[j] := by simp [hj]
        rw [e]
        exact bounds_u8 (hwz _ (List.getElem_mem hj))
      · have e : zs.getD j 0 = 0 := by simp [List.getElem?_eq_none (by omega : zs.length ≤ j)]
        rw [e]
        omega

/-- A step: what to do, the kind, the number, the resource, the reason, the ticks, the text. -/
structure Sp where
  d : Int
  k : Int
  a : Int
  o : Ro
  y : Int
  x : Int
  t : ByteArray
structure Sp.Ok (s : Sp) : Prop where
  d : I64 s.d
  k : I64 s.k
  a : I64 s.a
  o : RgO s.o.k s.o.i s.o.g
  y : I64 s.y
  x : I64 s.x
  t : s.t.size ≤ 9223372036854775807
def Sp.cs (s : Sp) : Array Value := #[.int .i64 s.d, .int .i64 s.k, .int .i64 s.a, .int .i64 s.o.k, .int .i64 s.o.i, .int .u32 s.o.g, .int .i64 s.y, .int .i64 s.x, .string s.t]
instance : Inhabited Sp := ⟨⟨0, 0, 0, ⟨0, 0, 0⟩, 0, 0, ByteArray.empty⟩⟩
/-- What a parameter of steps holds. -/
structure Sps (w : World) (a : Option Addr) (len : Nat) (s : Nat → Sp) : Prop where
  at_ : 0 < len → ∃ b off, a = some ⟨b, off, none⟩ ∧ b < w.heap.size ∧ ∀ j, j < len → w.cell? ⟨b, off + j * 9, none⟩ = some (.int .i64 (s j).d) ∧ w.cell? ⟨b, off + j * 9 + 1, none⟩ = some (.int .i64 (s j).k) ∧ w.cell? ⟨b, off + j * 9 + 2, none⟩ = some (.int .i64 (s j).a) ∧ w.cell? ⟨b, off + j * 9 + 3, none⟩ = some (.int .i64 (s j).o.k) ∧ w.cell? ⟨b, off + j * 9 + 4, none⟩ = some (.int .i64 (s j).o.i) ∧ w.cell? ⟨b, off + j * 9 + 5, none⟩ = some (.int .u32 (s j).o.g) ∧ w.cell? ⟨b, off + j * 9 + 6, none⟩ = some (.int .i64 (s j).y) ∧ w.cell? ⟨b, off + j * 9 + 7, none⟩ = some (.int .i64 (s j).x) ∧ w.cell? ⟨b, off + j * 9 + 8, none⟩ = some (.string (s j).t)
  bd : ∀ j, j < len → (s j).Ok
theorem Sps.below {w w' : World} {a : Option Addr} {len : Nat} {s : Nat → Sp} (h : Sps w a len s) (hb : Below w.heap.size w w') : Sps w' a len s :=
  ⟨fun h0 => by
    obtain ⟨b, off, e, h1, h2⟩ := h.at_ h0
    refine ⟨b, off, e, Nat.lt_of_lt_of_le h1 hb.size, fun j hj => ?_⟩
    obtain ⟨k0, k1, k2, k3, k4, k5, k6, k7, k8⟩ := h2 j hj
    exact ⟨cell_keeps hb k0, cell_keeps hb k1, cell_keeps hb k2, cell_keeps hb k3, cell_keeps hb k4, cell_keeps hb k5, cell_keeps hb k6, cell_keeps hb k7, cell_keeps hb k8⟩, h.bd⟩
set_option maxRecDepth 1000000 in
/-- Nine cells that read as a step. -/
theorem step_cells {H : Type} {enc : TypeId × Value → H} {W : World} {base : Nat} {sp : Nat → Bool} {hd : Bool} {fuel : Nat} {c0 c1 c2 c3 c4 c5 c6 c7 c8 : Value} {x : DataW H × List MemPlace} (h : DataW.trod enc Tryz.prog W base sp hd fuel 36 [c0, c1, c2, c3, c4, c5, c6, c7, c8] = some x) : ∃ s : Sp, s.Ok ∧ [c0, c1, c2, c3, c4, c5, c6, c7, c8] = s.cs.toList := by
  obtain ⟨xs, k, _, _, _, hxl, hfl⟩ := DataW.trod_struct Tryz.underlying36 h
  match xs, hxl with
  | [y0, y1, y2, y3, y4, y5, y6], _ =>
    have g0 := hfl 0 _ rfl
    have g1 := hfl 1 _ rfl
    have g2 := hfl 2 _ rfl
    have g3 := hfl 3 _ rfl
    have g4 := hfl 4 _ rfl
    have g5 := hfl 5 _ rfl
    have g6 := hfl 6 _ rfl
    have e64 : Tryz.prog.cellsOf 2 = 1 := by kernel_rfl
    have eO : Tryz.prog.cellsOf 25 = 3 := by kernel_rfl
    have eI : Tryz.prog.cellsOf 3 = 1 := by kernel_rfl
    have eU : Tryz.prog.cellsOf 22 = 1 := by kernel_rfl
    have eS : Tryz.prog.cellsOf 9 = 1 := by kernel_rfl
    simp [e64, eO, eI, eS] at g0 g1 g2 g3 g4 g5 g6
    obtain ⟨z0, z1, z2, m, rfl, _, k0, k1, k2⟩ := Go.Deep.trod_struct3 Tryz.underlying25 g3
    simp [eI, eU] at k0 k1 k2
    obtain ⟨u0, f0, _, p0⟩ := DataW.trod_int (t := 3) Tryz.underlying3 g0
    obtain ⟨u1, f1, _, p1⟩ := DataW.trod_int (t := 3) Tryz.underlying3 g1
    obtain ⟨u2, f2, _, p2⟩ := DataW.trod_int (t := 3) Tryz.underlying3 g2
    obtain ⟨u3, f3, _, p3⟩ := DataW.trod_int (t := 3) Tryz.underlying3 k0
    obtain ⟨u4, f4, _, p4⟩ := DataW.trod_int (t := 3) Tryz.underlying3 k1
    obtain ⟨u5, f5, _, p5⟩ := DataW.trod_int (t := 22) Tryz.underlying22 k2
    obtain ⟨u6, f6, _, p6⟩ := DataW.trod_int (t := 3) Tryz.underlying3 g4
    obtain ⟨u7, f7, _, p7⟩ := DataW.trod_int (t := 2) Tryz.underlying2 g5
    obtain ⟨u8, f8, _, p8⟩ := DataW.trod_string (t := 9) Tryz.underlying9 g6
    simp at f0 f1 f2 f3 f4 f5 f6 f7 f8
    subst f0 f1 f2 f3 f4 f5 f6 f7 f8
    have b0 := bounds_i64 p0
    have b1 := bounds_i64 p1
    have b2 := bounds_i64 p2
    have b3 := bounds_i64 p3
    have b4 := bounds_i64 p4
    have b5 := bounds_u32 p5
    have b6 := bounds_i64 p6
    have b7 := bounds_i64 p7
    exact ⟨⟨u0, u1, u2, ⟨u3, u4, u5⟩, u6, u7, u8⟩, ⟨b0, b1, b2, ⟨b3.1, b3.2, b4.1, b4.2, b5.1, b5.2⟩, b6, b7, by unfold maxLen at p8; show u8.size ≤ _; omega⟩, rfl⟩
theorem array9 {α : Type} {cs : Array α} (h : cs.size = 9) : ∃ c0 c1 c2 c3 c4 c5 c6 c7 c8, cs = #[c0, c1, c2, c3, c4, c5, c6, c7, c8] := by
  obtain ⟨l⟩ := cs
  match l, h with
  | [c0, c1, c2, c3, c4, c5, c6, c7, c8], _ => exact ⟨c0, c1, c2, c3, c4, c5, c6, c7, c8, rfl⟩
theorem list9 {α : Type} {l : List α} (h : l.length = 9) : ∃ c0 c1 c2 c3 c4 c5 c6 c7 c8, l = [c0, c1, c2, c3, c4, c5, c6, c7, c8] := by
  match l, h with
  | [c0, c1, c2, c3, c4, c5, c6, c7, c8], _ => exact ⟨c0, c1, c2, c3, c4, c5, c6, c7, c8, rfl⟩
set_option maxRecDepth 1000000 in
theorem step_of {H : Type} {enc : TypeId × Value → H} {W : World} {r : Reach} {b0 : Nat} {v : Value} {d : DataW H} {p : List MemPlace} (hv : Value.okWide Tryz.prog W r b0 36 v) (h : DataW.Trod enc Tryz.prog W 0 (fun _ => true) true 36 v d p) : ∃ s : Sp, v = .agg s.cs ∧ s.Ok := by
  obtain ⟨cs, rfl, hsz⟩ := okWide_struct Tryz.underlying36 hv
  obtain ⟨c0, c1, c2, c3, c4, c5, c6, c7, c8, rfl⟩ := array9 (hsz.trans (by kernel_rfl))
  obtain ⟨fuel, hf⟩ := h
  obtain ⟨s, hs, e⟩ := step_cells hf
  refine ⟨s, ?_, hs⟩
  rw [show (#[c0, c1, c2, c3, c4, c5, c6, c7, c8] : Array Value) = [c0, c1, c2, c3, c4, c5, c6, c7, c8].toArray from rfl, e]
set_option maxRecDepth 1000000 in
theorem steps_of {H : Type} {enc : TypeId × Value → H} {W : World} {a : Option Addr} {len cap : Nat} {d : DataW H} {p : List MemPlace} (h : DataW.Trod enc Tryz.prog W 0 (fun _ => true) true 23 (.slice a len cap) d p) : len ≤ cap ∧ cap ≤ 9223372036854775807 ∧ ∃ s, Sps W a len s := by
  obtain ⟨fuel, hf⟩ := h
  rcases Go.Deep.open_slice Tryz.underlying23 hf with ⟨hcs, hx⟩ | ⟨a', len', cap', m, n, D, Pl, hcs, _, hl, hm, hmm, _, hi⟩
  · simp [Value.cells] at hcs
    obtain ⟨rfl, rfl, rfl⟩ := hcs
    exact ⟨Nat.le_refl _, by omega, fun _ => default, fun h => by omega, fun _ _ => by omega⟩
  · simp [Value.cells] at hcs
    obtain ⟨rfl, rfl, rfl⟩ := hcs
    simp only [if_true] at hmm
    have hce : Tryz.prog.cellsOf 36 = 9 := by kernel_rfl
    have each : ∀ j, j < len → ∃ s : Sp, (∀ i, i < 9 → W.cell? (a'.add (j * 9 + i)) = s.cs[i]?) ∧ s.Ok := by
      intro j hj
      obtain ⟨cs', h1, h2⟩ := hi j (by omega)
      rw [hce] at h1
      obtain ⟨_, hlen, hcell⟩ := World.cells?_some h1
      obtain ⟨v0, v1, v2, v3, v4, v5, v6, v7, v8, rfl⟩ := list9 hlen
      obtain ⟨s, hs, e⟩ := step_cells h2
      refine ⟨s, fun i hi => ?_, hs⟩
      have r := hcell i hi
      rw [Go.Deep.add_add] at r
      rw [r, e]
      simp
    obtain ⟨t, ht⟩ := Go.Deep.choose_lt each
    refine ⟨hl, by unfold maxLen at hm; omega, t, fun h0 => ?_, fun j hj => (ht j hj).2⟩
    obtain ⟨b, off, spot⟩ := a'
    have hc0 : W.cell? ((⟨b, off, spot⟩ : Addr).add (0 * 9 + 0)) = some (.int .i64 (t 0).d) := (ht 0 h0).1 0 (by decide)
    have hspot : spot = none := by simpa [Addr.add] using World.cell?_spot hc0
    subst hspot
    refine ⟨b, off, rfl, World.block_lt_of_cell? _ _ hc0, fun j hj => ?_⟩
    have q := (ht j hj).1
    have f : ∀ i, i < 9 → W.cell? ⟨b, off + j * 9 + i, none⟩ = (t j).cs[i]? := fun i hi => by
      have := q i hi
      rw [add_plain] at this
      rw [Nat.add_assoc]
      exact this
    exact ⟨f 0 (by decide), f 1 (by decide), f 2 (by decide), f 3 (by decide), f 4 (by decide), f 5 (by decide), f 6 (by decide), f 7 (by decide), f 8 (by decide)⟩
/-- What a parameter of bools holds. -/
structure Bls (w : World) (a : Option Addr) (len : Nat) (s : Nat → Bool) : Prop where
  at_ : 0 < len → ∃ b off, a = some ⟨b, off, none⟩ ∧ b < w.heap.size ∧ ∀ j, j < len → w.cell? ⟨b, off + j, none⟩ = some (.bool (s j))
theorem Bls.below {w w' : World} {a : Option Addr} {len : Nat} {s : Nat → Bool} (h : Bls w a len s) (hb : Below w.heap.size w w') : Bls w' a len s :=
  ⟨fun h0 => by
    obtain ⟨b, off, e, h1, h2⟩ := h.at_ h0
    exact ⟨b, off, e, Nat.lt_of_lt_of_le h1 hb.size, fun j hj => cell_keeps hb (h2 j hj)⟩⟩
theorem bools_of {H : Type} {enc : TypeId × Value → H} {W : World} {a : Option Addr} {len cap : Nat} {d : DataW H} {p : List MemPlace} (h : DataW.Trod enc Tryz.prog W 0 (fun _ => true) true 76 (.slice a len cap) d p) : len ≤ cap ∧ cap ≤ 9223372036854775807 ∧ ∃ s, Bls W a len s := by
  obtain ⟨fuel, hf⟩ := h
  rcases Go.Deep.open_slice Tryz.underlying76 hf with ⟨hcs, hx⟩ | ⟨a', len', cap', m, n, D, Pl, hcs, _, hl, hm, hmm, _, hi⟩
  · simp [Value.cells] at hcs
    obtain ⟨rfl, rfl, rfl⟩ := hcs
    exact ⟨Nat.le_refl _, by omega, fun _ => default, ⟨fun h => by omega⟩⟩
  · simp [Value.cells] at hcs
    obtain ⟨rfl, rfl, rfl⟩ := hcs
    simp only [if_true] at hmm
    have hce : Tryz.prog.cellsOf 4 = 1 := by kernel_rfl
    have each : ∀ j, j < len → ∃ s : Bool, W.cell? (a'.add j) = some (.bool s) := by
      intro j hj
      obtain ⟨cs', h1, h2⟩ := hi j (by omega)
      rw [hce] at h1
      obtain ⟨_, hlen, hcell⟩ := World.cells?_some h1
      match cs', hlen with
      | [v], _ =>
        obtain ⟨s, e, _⟩ := DataW.trod_bool (t := 4) Tryz.underlying4 h2
        simp at e
        subst e
        have r := hcell 0 (by omega)
        rw [Go.Deep.add_add] at r
        exact ⟨s, by simpa using r⟩
    obtain ⟨t, ht⟩ := Go.Deep.choose_lt each
    refine ⟨hl, by unfold maxLen at hm; omega, t, ⟨fun h0 => ?_⟩⟩
    obtain ⟨b, off, spot⟩ := a'
    have hspot : spot = none := by simpa [Addr.add] using World.cell?_spot (ht 0 h0)
    subst hspot
    refine ⟨b, off, rfl, World.block_lt_of_cell? _ _ (ht 0 h0), fun j hj => ?_⟩
    have h1 := ht j hj
    rw [add_plain] at h1
    exact h1
end Go.Proofs.YtpinmiplefidpaaGreatDoor
