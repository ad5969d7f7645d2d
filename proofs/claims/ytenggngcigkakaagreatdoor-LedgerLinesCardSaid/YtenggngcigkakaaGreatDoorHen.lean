/- What the rows' condition on the listed variables gives: the table of powers of ten, the two sentinels, the letters of the kinds, the words; that bytealg.MaxLen holds a number; one start that meets it; an attempt and a resource among the arguments; the last step of a law. -/
import Derived.Test.YtenggngcigkakaaGreatDoorHa
import Derived.Lay
import Derived.Deep.Strs
import Derived.LaidOnce
import Derived.ProofKit
import Derived.LaidMore
import Derived.OpenShut
import Derived.Stop.Joined
import Derived.Stop.LaidErr
import Derived.Lib.LaidTab
import Derived.Lib.LaidU8
import Derived.Shelf.Vars
import Derived.SevenTiedAt
import Derived.SizedLaws
import Derived.Lib.SmallJoins
namespace Go.Proofs.YtenggngcigkakaaGreatDoor
open Go.ChangeShapes Go.WideShapes Go.ChangeAt Go.RowKit

theorem own : ownKnob Tryz.prog.godebug = none := by kernel_rfl
theorem laidOut : laidOutB Tryz.prog = true := by kernel_rfl
def laidList : List (String × DataW Unit) := [("math/bits.deBruijn32tab", Rows.laid_math_bits_deBruijn32tab), ("math/bits.deBruijn64tab", Rows.laid_math_bits_deBruijn64tab), ("internal/strconv.uint64pow10", Rows.laid_internal_strconv_uint64pow10), ("unicode/utf8.acceptRanges", Rows.laid_unicode_utf8_acceptRanges), ("strconv.ErrRange", Rows.laid_strconv_ErrRange), ("strconv.ErrSyntax", Rows.laid_strconv_ErrSyntax), ("estray/descr.letters", Rows.laid_estray_descr_letters), ("estray/ledger.whys", Rows.laid_estray_ledger_whys), ("estray/ledger.answers", Rows.laid_estray_ledger_answers), ("unicode/utf8.first", Rows.laid_unicode_utf8_first)]

theorem door_met (os : Os) (args : Array Value) : laidMetH Tryz.prog laidList ((World.laidAll Tryz.prog os laidList).forCall (fun _ _ => 0) ⟨#[], args, []⟩).memory := by
  rw [MakeChecks.laidMetH_plain _ _ _ (by kernel_rfl)]
  exact laidMet_laidAll _ (by kernel_rfl) (by kernel_rfl)

/-- An array of strings that reads as a list of texts holds these texts, cell for cell. -/
theorem cells_of_strs {H : Type} {enc : TypeId × Value → H} {P : Program} {w : World} {base : Nat} {sp : Nat → Bool} {held : Bool} {fuel : Nat} {t e : TypeId} {n : Nat} {cs : List Value} {zs : List (List UInt8)} {p : List MemPlace}
    (ht : P.underlying t = some (.array n e)) (he : P.underlying e = some .string) (hce : P.cellsOf e = 1) (hct : P.cellsOf t = n)
    (h : DataW.trod enc P w base sp held fuel t cs = some (.agg (zs.map fun z => .lit (.string z)), p)) : cs = zs.map fun z => Value.string ⟨z.toArray⟩ := by
  cases fuel with
  | zero => simp [DataW.trod] at h
  | succ fuel =>
    simp only [DataW.trod, ht, hce, hct, Nat.mul_one] at h
    split at h
    · rename_i hl
      obtain ⟨xs, hm, hx⟩ := Option.map_eq_some_iff.1 h
      have hxs : xs.map (·.1) = zs.map fun z => (DataW.lit (.string z) : DataW H) := by
        have := congrArg Prod.fst hx
        simpa using this
      have hxl : xs.length = n := by simpa using Lib.mapM_length hm
      have hzl : zs.length = n := by
        have := congrArg List.length hxs
        simp at this
        omega
      apply List.ext_getElem?
      intro i
      by_cases hi : i < n
      · obtain ⟨b, hb, hf⟩ := Lib.mapM_at hm i i (by simp [hi])
        obtain ⟨z, hc, rfl, _⟩ := DataW.trod_string he hf
        have h1 : cs[i]? = some (.string z) := by
          have := congrArg (·[0]?) hc
          simpa [List.getElem?_take, List.getElem?_drop] using this
        have h2 : (xs.map (·.1))[i]? = some (DataW.lit (.string z.data.toList) : DataW H) := by simp [hb]
        rw [hxs] at h2
        simp only [List.getElem?_map, Option.map_eq_some_iff, DataW.lit.injEq, Lit.string.injEq] at h2
        obtain ⟨z', hz', h3⟩ := h2
        have h4 : z = ⟨z'.toArray⟩ := by apply ByteArray.ext; rw [h3]
        simp [h1, hz', h4]
      · rw [List.getElem?_eq_none (by omega), List.getElem?_eq_none (by simp; omega)]
    · cases h

theorem len_of_shaped {W : World} (h : W.ShapedOpen Tryz.prog) : ∃ m : Int, W.cell? ⟨2, 0, none⟩ = some (.int .i64 m) :=
  cell_of_shapedOpen_int (t := 3) (zero := #[.int .i64 0]) h (of_decide_eq_true (by kernel_rfl)) (by kernel_rfl) (by kernel_rfl) (by kernel_rfl) (by kernel_rfl) Tryz.underlying3
theorem letters_eq : Rows.laid_estray_descr_letters = (.agg (([[102], [98], [108]] : List (List UInt8)).map fun z => .lit (.string z)) : DataW Unit) := rfl

theorem star : "*" ++ "errors.errorString" = "*errors.errorString" := by decide
theorem nameErr (u : TypeId) (h : Tryz.prog.typeName? 3 u = some "*errors.errorString") : u = 205 :=
  typeName_ptr_named (nm := "errors.errorString") (by rw [star]; kernel_rfl) (by kernel_rfl) (by decide) u (by rw [star]; exact h)

theorem whys_eq : Rows.laid_estray_ledger_whys = (.agg (([[], [99, 108, 111, 115, 101], [101, 120, 112, 105, 114, 121], [99, 111, 108, 108, 101, 99, 116]] : List (List UInt8)).map fun z => .lit (.string z)) : DataW Unit) := rfl
theorem answers_eq : Rows.laid_estray_ledger_answers = (.agg (([[], [111, 107], [108, 97, 116, 101, 114], [102, 97, 105, 108]] : List (List UInt8)).map fun z => .lit (.string z)) : DataW Unit) := rfl
theorem env_of_laid {W : World} (h0 : laidMetH Tryz.prog laidList W) (hsh : W.ShapedOpen Tryz.prog) : EnvL W := by
  rw [MakeChecks.laidMetH_plain _ _ _ (by kernel_rfl)] at h0
  have hl : Lib.VarReads Tryz.prog W "estray/descr.letters" (.agg (([[102], [98], [108]] : List (List UInt8)).map fun z => .lit (.string z))) := letters_eq ▸ Lib.laidMet.reads h0 (.tail _ (.tail _ (.tail _ (.tail _ (.tail _ (.tail _ (.head _)))))))
  have hy : Lib.VarReads Tryz.prog W "estray/ledger.whys" (.agg (([[], [99, 108, 111, 115, 101], [101, 120, 112, 105, 114, 121], [99, 111, 108, 108, 101, 99, 116]] : List (List UInt8)).map fun z => .lit (.string z))) := whys_eq ▸ Lib.laidMet.reads h0 (.tail _ (.tail _ (.tail _ (.tail _ (.tail _ (.tail _ (.tail _ (.head _))))))))
  have hn : Lib.VarReads Tryz.prog W "estray/ledger.answers" (.agg (([[], [111, 107], [108, 97, 116, 101, 114], [102, 97, 105, 108]] : List (List UInt8)).map fun z => .lit (.string z))) := answers_eq ▸ Lib.laidMet.reads h0 (.tail _ (.tail _ (.tail _ (.tail _ (.tail _ (.tail _ (.tail _ (.tail _ (.head _)))))))))
  have h3 : laidMet Tryz.prog (("internal/strconv.uint64pow10", Lib.tabData .u64 Lib.pow10Tab) :: [("unicode/utf8.acceptRanges", Rows.laid_unicode_utf8_acceptRanges), ("strconv.ErrRange", Rows.laid_strconv_ErrRange), ("strconv.ErrSyntax", Rows.laid_strconv_ErrSyntax), ("estray/descr.letters", Rows.laid_estray_descr_letters), ("estray/ledger.whys", Rows.laid_estray_ledger_whys), ("estray/ledger.answers", Rows.laid_estray_ledger_answers), ("unicode/utf8.first", Rows.laid_unicode_utf8_first)]) W := h0.tail.tail
  obtain ⟨g, t, cs, fuel, p, hg, ht, hvar, htr⟩ := hl
  obtain rfl : g = 6 := (Option.some.inj ((show Tryz.prog.globalNamed "estray/descr.letters" = some 6 by kernel_rfl).symm.trans hg)).symm
  obtain rfl : t = 166 := (Option.some.inj ((show (Tryz.prog.globals[6]?).map (·.type) = some 166 by kernel_rfl).symm.trans ht)).symm
  have hcs := cells_of_strs Tryz.underlying166 Tryz.underlying9 (by kernel_rfl) (by kernel_rfl) htr
  have hc : ∀ i, W.cell? ⟨6, i, none⟩ = cs[i]? := fun i => World.var?_cell hg hvar i
  have hcs' : cs = #[.string ⟨#[102]⟩, .string ⟨#[98]⟩, .string ⟨#[108]⟩] := by
    apply Array.toList_inj.1
    rw [hcs]
    rfl
  obtain ⟨g2, t2, cs2, fuel2, p2, hg2, ht2, hvar2, htr2⟩ := hy
  obtain rfl : g2 = 0 := (Option.some.inj ((show Tryz.prog.globalNamed "estray/ledger.whys" = some 0 by kernel_rfl).symm.trans hg2)).symm
  obtain rfl : t2 = 84 := (Option.some.inj ((show (Tryz.prog.globals[(0 : Nat)]?).map (·.type) = some 84 by kernel_rfl).symm.trans ht2)).symm
  have hcs2 := cells_of_strs Tryz.underlying84 Tryz.underlying9 (by kernel_rfl) (by kernel_rfl) htr2
  have hc2 : ∀ i, W.cell? ⟨0, i, none⟩ = cs2[i]? := fun i => World.var?_cell hg2 hvar2 i
  have hcs2' : cs2 = #[.string ⟨#[]⟩, .string ⟨#[99, 108, 111, 115, 101]⟩, .string ⟨#[101, 120, 112, 105, 114, 121]⟩, .string ⟨#[99, 111, 108, 108, 101, 99, 116]⟩] := by
    apply Array.toList_inj.1
    rw [hcs2]
    rfl
  obtain ⟨g3, t3, cs3, fuel3, p3, hg3, ht3, hvar3, htr3⟩ := hn
  obtain rfl : g3 = 1 := (Option.some.inj ((show Tryz.prog.globalNamed "estray/ledger.answers" = some 1 by kernel_rfl).symm.trans hg3)).symm
  obtain rfl : t3 = 84 := (Option.some.inj ((show (Tryz.prog.globals[(1 : Nat)]?).map (·.type) = some 84 by kernel_rfl).symm.trans ht3)).symm
  have hcs3 := cells_of_strs Tryz.underlying84 Tryz.underlying9 (by kernel_rfl) (by kernel_rfl) htr3
  have hc3 : ∀ i, W.cell? ⟨1, i, none⟩ = cs3[i]? := fun i => World.var?_cell hg3 hvar3 i
  have hcs3' : cs3 = #[.string ⟨#[]⟩, .string ⟨#[111, 107]⟩, .string ⟨#[108, 97, 116, 101, 114]⟩, .string ⟨#[102, 97, 105, 108]⟩] := by
    apply Array.toList_inj.1
    rw [hcs3]
    rfl
  refine ⟨⟨Lib.tabIs_of_head (g := 7) (t := 188) (e := 125) (n := 20) (by kernel_rfl) (by kernel_rfl) Tryz.underlying188 Tryz.underlying125 (by kernel_rfl) (by kernel_rfl) h3, ⟨?_, ?_⟩, ?_, ?_, ?_, len_of_shaped hsh⟩, ⟨?_, ?_, ?_, ?_⟩, ⟨?_, ?_, ?_, ?_⟩⟩
  · obtain ⟨a, s, hv, _⟩ := laid_sentinel (g := 8) (tp := 205) h3.tail.tail.tail (by kernel_rfl) (by kernel_rfl) Tryz.underlying100 nameErr Tryz.underlying205 Tryz.underlying207 rfl rfl Tryz.underlying9 (by kernel_rfl) (by kernel_rfl)
    exact ⟨_, _, hv⟩
  · obtain ⟨a, s, hv, _⟩ := laid_sentinel (g := 9) (tp := 205) h3.tail.tail (by kernel_rfl) (by kernel_rfl) Tryz.underlying100 nameErr Tryz.underlying205 Tryz.underlying207 rfl rfl Tryz.underlying9 (by kernel_rfl) (by kernel_rfl)
    exact ⟨_, _, hv⟩
  · rw [hc, hcs']; rfl
  · rw [hc, hcs']; rfl
  · rw [hc, hcs']; rfl
  · rw [hc2, hcs2']; rfl
  · rw [hc2, hcs2']; rfl
  · rw [hc2, hcs2']; rfl
  · rw [hc2, hcs2']; rfl
  · rw [hc3, hcs3']; rfl
  · rw [hc3, hcs3']; rfl
  · rw [hc3, hcs3']; rfl
  · rw [hc3, hcs3']; rfl

section
variable {H : Type} {enc : TypeId × Value → H}
/-- The wrap of a law whose row lists variables, with the world's shape kept for the walk. -/
theorem handed_law {C : Checked} {os : Os} {f : FuncId} {fn : Func} {s : ChangeSpec} {X : World → Array Value → Prop}
    (hX : ∀ (w w' : World) (args : Array Value), w.heap = w'.heap → X w args → X w' args)
    (own : ownKnob C.prog.godebug = none) (started : os.Started) (noInit : C.prog.inits.idxOf? f = none) (hfn : C.prog.funcs[f]? = some fn)
    (witness : ∃ (w : World) (tape : Tape) (i : Input), w.os = os ∧ (w.forCall tape i).Shaped C.prog ∧ i.vars = [] ∧ Input.okWide C.prog (w.forCall tape i) .any w.heap.size f i ∧
      ((s.pre enc C.prog fn [] false (w.forCall tape i).memory i.args ∧ X (w.forCall tape i).memory i.args) ∧ sizedMet enc C.prog fn (OpenSpec.ofChange s) false (w.forCall tape i).memory i.args) ∧ ({} : Assume).holds C.prog (lone (Frame.enter C.prog f i.args .normal) [] (w.forCall tape i)))
    (walk : ∀ (W : World) (base : Nat) (args : Array Value) (ds gs : List (DataW H)) (before : List MemPlace),
      (∀ (j : Nat) t v, fn.params[j]? = some t → args[j]? = some v → Value.okWide C.prog W .any base t v) →
      DataW.Whole enc C.prog fn.params.toList s.vars false W args.toList ds gs before →
      (DataW.weightsEach C.prog (fn.params.toList ++ s.plain.varTypes C.prog) (ds ++ gs)).all (· ≤ reachBytes) = true → X W args → W.ShapedOpen C.prog →
      Calls C.prog f args W fun e W' => ∃ v, e = .returned v ∧ s.post enc C.prog fn false true false false W args v W') :
    ReturnsInHanded {} C os f .any (fun w args => (s.pre enc C.prog fn [] false w args ∧ X w args) ∧ sizedMet enc C.prog fn (OpenSpec.ofChange s) false w args) (s.post enc C.prog fn false true false false) := by
  refine returnsInHanded_of_calls own started noInit witness fun w tape i _ hshaped _ hok hpre _ => ?_
  obtain ⟨_, _, _, fn2, hfn2, _, _, _, _, hargs⟩ := hok
  obtain rfl : fn2 = fn := Option.some.inj (hfn2.symm.trans hfn)
  obtain ⟨⟨⟨ds, gs, before, hwhole, _⟩, hx⟩, hsz⟩ := hpre
  refine (walk (w.forCall tape i) w.heap.size i.args ds gs before hargs (DataW.Whole.of_heap (w' := w.forCall tape i) (by rfl) hwhole) (hsz.weights hwhole) (hX _ _ _ (by rfl) hx) hshaped).mono ?_
  rintro e W' ⟨v, rfl, hpost⟩
  exact ChangeSpec.post_blind hpost
end

/-- A law's last step, where its arguments lead to no memory and the call has made new blocks alone. -/
theorem post_law {H : Type} {enc : TypeId × Value → H} {P : Program} {f : Func} {s : ChangeSpec} {W W' : World} {args : Array Value} {v : Value} {ds : List (DataW H)}
    (hW : DataW.Whole enc P f.params.toList s.vars false W args.toList ds [] [])
    (hres : ∀ (b : Nat) (sp : Nat → Bool) (hd : Bool), DataW.TrodAll enc P W' b sp hd f.resultTypes.toList (v.resultList f.resultTypes.size) (s.fn H (ds ++ [])).results [])
    (hargs : ∀ sp : Nat → Bool, DataW.TrodAll enc P W' 0 sp true f.params.toList args.toList (s.fn H (ds ++ [])).args [])
    (hvars : ∀ sp : Nat → Bool, DataW.TrodVars enc P W' sp s.vars (s.fn H (ds ++ [])).vars [])
    (hb : Below W.heap.size W W') : s.post enc P f false true false false W args v W' :=
  ⟨ds, [], [], [], [], [], hW, hres _ _ _, hargs _, hvars _, World.keptBut_mono (fun p hp => by cases hp) (hb.frame (fun _ => False)), fun h => by cases h⟩

theorem array6 {α : Type} {cs : Array α} (h : cs.size = 6) : ∃ c0 c1 c2 c3 c4 c5, cs = #[c0, c1, c2, c3, c4, c5] := by
  obtain ⟨l⟩ := cs
  match l, h with
  | [c0, c1, c2, c3, c4, c5], _ => exact ⟨c0, c1, c2, c3, c4, c5, rfl⟩
set_option maxRecDepth 100000 in
/-- Six cells that read as an attempt. -/
theorem att_cells {H : Type} {enc : TypeId × Value → H} {W : World} {base : Nat} {sp : Nat → Bool} {hd : Bool} {fuel : Nat} {c0 c1 c2 c3 c4 c5 : Value} {x : DataW H × List MemPlace} (h : DataW.trod enc Tryz.prog W base sp hd fuel 32 [c0, c1, c2, c3, c4, c5] = some x) : ∃ a : Att, a.Rg ∧ [c0, c1, c2, c3, c4, c5] = a.cl := by
  obtain ⟨y0, y1, y2, y3, n, rfl, _, h0, h1, h2, h3⟩ := Go.Joins.trod_struct4 Tryz.underlying32 h
  have e64 : Tryz.prog.cellsOf 2 = 1 := by kernel_rfl
  have eO : Tryz.prog.cellsOf 25 = 3 := by kernel_rfl
  have eI : Tryz.prog.cellsOf 3 = 1 := by kernel_rfl
  have eU : Tryz.prog.cellsOf 23 = 1 := by kernel_rfl
  dsimp only at h0 h1 h2 h3
  rw [e64] at h0
  rw [eO] at h1
  rw [eI] at h2 h3
  obtain ⟨z0, z1, z2, m, rfl, _, k0, k1, k2⟩ := Go.Deep.trod_struct3 Tryz.underlying25 h1
  dsimp only at k0 k1 k2
  rw [eI] at k0 k1
  rw [eU] at k2
  obtain ⟨t, e0, _, w0⟩ := DataW.trod_int (t := 2) Tryz.underlying2 h0
  obtain ⟨k, e1, _, w1⟩ := DataW.trod_int (t := 3) Tryz.underlying3 k0
  obtain ⟨i, e2, _, w2⟩ := DataW.trod_int (t := 3) Tryz.underlying3 k1
  obtain ⟨g, e3, _, w3⟩ := DataW.trod_int (t := 23) Tryz.underlying23 k2
  obtain ⟨y, e4, _, w4⟩ := DataW.trod_int (t := 3) Tryz.underlying3 h2
  obtain ⟨v, e5, _, w5⟩ := DataW.trod_int (t := 3) Tryz.underlying3 h3
  simp at e0 e1 e2 e3 e4 e5
  subst e0 e1 e2 e3 e4 e5
  have q0 := bounds_i64 w0
  have q1 := bounds_i64 w1
  have q2 := bounds_i64 w2
  have q3 := bounds_u32 w3
  have q4 := bounds_i64 w4
  have q5 := bounds_i64 w5
  exact ⟨⟨t, k, i, g, y, v⟩, ⟨q0.1, q0.2, q1.1, q1.2, q2.1, q2.2, q3.1, q3.2, q4.1, q4.2, q5.1, q5.2⟩, rfl⟩
set_option maxRecDepth 100000 in
theorem att_of {H : Type} {enc : TypeId × Value → H} {W : World} {r : Reach} {b0 : Nat} {v : Value} {d : DataW H} {p : List MemPlace} (hv : Value.okWide Tryz.prog W r b0 32 v) (h : DataW.Trod enc Tryz.prog W 0 (fun _ => true) true 32 v d p) : ∃ a : Att, v = a.val ∧ a.Rg := by
  obtain ⟨cs, rfl, hsz⟩ := okWide_struct Tryz.underlying32 hv
  obtain ⟨c0, c1, c2, c3, c4, c5, rfl⟩ := array6 (hsz.trans (by kernel_rfl))
  obtain ⟨fuel, hf⟩ := h
  obtain ⟨a, ha, e⟩ := att_cells hf
  refine ⟨a, ?_, ha⟩
  rw [show (#[c0, c1, c2, c3, c4, c5] : Array Value) = [c0, c1, c2, c3, c4, c5].toArray from rfl, e]
  rfl

set_option maxRecDepth 100000 in
theorem outer_of {H : Type} {enc : TypeId × Value → H} {W : World} {r : Reach} {b0 : Nat} {v : Value} {d : DataW H} {p : List MemPlace} (hv : Value.okWide Tryz.prog W r b0 25 v) (h : DataW.Trod enc Tryz.prog W 0 (fun _ => true) true 25 v d p) : ∃ i j g : Int, v = .agg #[.int .i64 i, .int .i64 j, .int .u32 g] ∧ Rg i j g := by
  obtain ⟨c0, c1, c2, y0, y1, y2, m, rfl, _, _, h0, h1, h2⟩ := Go.Joins.open_agg3 Tryz.underlying25 (by kernel_rfl) (by kernel_rfl) hv h
  obtain ⟨x, e1, _, w1⟩ := DataW.trod_int (t := 3) Tryz.underlying3 h0
  obtain ⟨y, e2, _, w2⟩ := DataW.trod_int (t := 3) Tryz.underlying3 h1
  obtain ⟨z, e3, _, w3⟩ := DataW.trod_int (t := 23) Tryz.underlying23 h2
  simp at e1 e2 e3
  subst e1 e2 e3
  have q1 := bounds_i64 w1
  have q2 := bounds_i64 w2
  have q3 := bounds_u32 w3
  exact ⟨x, y, z, rfl, ⟨q1.1, q1.2, q2.1, q2.2, q3.1, q3.2⟩⟩
end Go.Proofs.YtenggngcigkakaaGreatDoor
