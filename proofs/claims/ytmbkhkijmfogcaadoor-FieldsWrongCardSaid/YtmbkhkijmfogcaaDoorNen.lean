/- What the rows' condition on the listed variables gives: the table of powers of ten, the two sentinels; that bytealg.MaxLen holds a number; one start that meets it; objects, references and arrays among the arguments; the last step of a law. -/
import Derived.Test.YtmbkhkijmfogcaaDoorNj
import Derived.Lay
import Derived.LaidOnce
import Derived.ProofKit
import Derived.LaidMore
import Derived.OpenShut
import Derived.Stop.Joined
import Derived.Stop.LaidErr
import Derived.Lib.LaidTab
import Derived.Lib.LaidU8
import Derived.Shelf.Vars
import Derived.SevenTiedAt
import Derived.SizedLaws
import Derived.Lib.SmallJoins
import Derived.Deep.Strs
import Derived.Carry
namespace Go.Proofs.YtmbkhkijmfogcaaDoor
open Go.ChangeShapes Go.WideShapes Go.ChangeAt Go.RowKit

theorem own : ownKnob Tryd.prog.godebug = none := by kernel_rfl
theorem laidOut : laidOutB Tryd.prog = true := by kernel_rfl
def laidList : List (String × DataW Unit) := [("math/bits.deBruijn32tab", Rows.laid_math_bits_deBruijn32tab), ("math/bits.deBruijn64tab", Rows.laid_math_bits_deBruijn64tab), ("internal/strconv.uint64pow10", Rows.laid_internal_strconv_uint64pow10), ("unicode/utf8.acceptRanges", Rows.laid_unicode_utf8_acceptRanges), ("strconv.ErrRange", Rows.laid_strconv_ErrRange), ("strconv.ErrSyntax", Rows.laid_strconv_ErrSyntax), ("unicode/utf8.first", Rows.laid_unicode_utf8_first)]
theorem door_met (os : Os) (args : Array Value) : laidMetH Tryd.prog laidList ((World.laidAll Tryd.prog os laidList).forCall (fun _ _ => 0) ⟨#[], args, []⟩).memory := by
  rw [MakeChecks.laidMetH_plain _ _ _ (by kernel_rfl)]
  exact laidMet_laidAll _ (by kernel_rfl) (by kernel_rfl)

theorem len_of_shaped {W : World} (h : W.ShapedOpen Tryd.prog) : ∃ m : Int, W.cell? ⟨0, 0, none⟩ = some (.int .i64 m) :=
  cell_of_shapedOpen_int (t := 3) (zero := #[.int .i64 0]) h (of_decide_eq_true (by kernel_rfl)) (by kernel_rfl) (by kernel_rfl) (by kernel_rfl) (by kernel_rfl) Tryd.underlying3
theorem star : "*" ++ "errors.errorString" = "*errors.errorString" := by decide
theorem nameErr (u : TypeId) (h : Tryd.prog.typeName? 3 u = some "*errors.errorString") : u = 142 :=
  typeName_ptr_named (nm := "errors.errorString") (by rw [star]; kernel_rfl) (by kernel_rfl) (by decide) u (by rw [star]; exact h)

theorem env_of_laid {W : World} (h0 : laidMetH Tryd.prog laidList W) (hsh : W.ShapedOpen Tryd.prog) : Env W := by
  rw [MakeChecks.laidMetH_plain _ _ _ (by kernel_rfl)] at h0
  have h3 : laidMet Tryd.prog (("internal/strconv.uint64pow10", Lib.tabData .u64 Lib.pow10Tab) :: [("unicode/utf8.acceptRanges", Rows.laid_unicode_utf8_acceptRanges), ("strconv.ErrRange", Rows.laid_strconv_ErrRange), ("strconv.ErrSyntax", Rows.laid_strconv_ErrSyntax), ("unicode/utf8.first", Rows.laid_unicode_utf8_first)]) W := h0.tail.tail
  refine ⟨Lib.tabIs_of_head (g := 3) (t := 130) (e := 83) (n := 20) (by kernel_rfl) (by kernel_rfl) Tryd.underlying130 Tryd.underlying83 (by kernel_rfl) (by kernel_rfl) h3, ⟨?_, ?_⟩, len_of_shaped hsh⟩
  · obtain ⟨a, s, hv, _⟩ := laid_sentinel (g := 4) (tp := 142) h3.tail.tail.tail (by kernel_rfl) (by kernel_rfl) Tryd.underlying98 nameErr Tryd.underlying142 Tryd.underlying144 rfl rfl Tryd.underlying9 (by kernel_rfl) (by kernel_rfl)
    exact ⟨_, _, hv⟩
  · obtain ⟨a, s, hv, _⟩ := laid_sentinel (g := 5) (tp := 142) h3.tail.tail (by kernel_rfl) (by kernel_rfl) Tryd.underlying98 nameErr Tryd.underlying142 Tryd.underlying144 rfl rfl Tryd.underlying9 (by kernel_rfl) (by kernel_rfl)
    exact ⟨_, _, hv⟩

section
variable {H : Type} {enc : TypeId × Value → H}
/-- The wrap of a law whose row lists variables, with the world's shape kept for the walk. -/
theorem handed_law {C : Checked} {os : Os} {f : FuncId} {fn : Func} {s : ChangeSpec} {X : World → Array Value → Prop}
    (hX : ∀ (w w' : World) (args : Array Value), w.heap = w'.heap → X w args → X w' args)
    (own : ownKnob C.prog.godebug = none) (started : os.Started) (noInit : C.prog.inits.idxOf? f = none) (hfn : C.prog.funcs[f]? = some fn)
    (witness : ∃ (w : World) (tape : Tape) (i : Input), w.os = os ∧ (w.forCall tape i).Shaped C.prog ∧ i.vars = [] ∧ Input.okWide C.prog (w.forCall tape i) .any w.heap.size f i ∧
      ((s.pre enc C.prog fn [] false (w.forCall tape i).memory i.args ∧ X (w.forCall tape i).memory i.args) ∧ sizedMet enc C.prog fn (OpenSpec.ofChange s) false (w.forCall tape i).memory i.args) ∧ ({} : Assume).holds C.prog (lone (Frame.enter C.prog f i.args .normal) [] (w.forCall tape i)))
    (walk : ∀ (W : World) (base : Nat) (args : Array Value) (ds gs : List (DataW H)) (before : List MemPlace),
      (∀ (j : Nat) t v, fn.params[j]? = some t → args[j]? = some v → Value.okWide C.prog W .any base t v) →
      DataW.Whole enc C.prog fn.params.toList s.vars false W args.toList ds gs before →
      (DataW.weightsEach C.prog (fn.params.toList ++ s.plain.varTypes C.prog) (ds ++ gs)).all (· ≤ reachBytes) = true → X W args → W.ShapedOpen C.prog →
      Calls C.prog f args W fun e W' => ∃ v, e = .returned v ∧ s.post enc C.prog fn false true false false W args v W') :
    ReturnsInHanded {} C os f .any (fun w args => (s.pre enc C.prog fn [] false w args ∧ X w args) ∧ sizedMet enc C.prog fn (OpenSpec.ofChange s) false w args) (s.post enc C.prog fn false true false false) := by
  refine returnsInHanded_of_calls own started noInit witness fun w tape i _ hshaped _ hok hpre _ => ?_
  obtain ⟨_, _, _, fn2, hfn2, _, _, _, _, hargs⟩ := hok
  obtain rfl : fn2 = fn := Option.some.inj (hfn2.symm.trans hfn)
  obtain ⟨⟨⟨ds, gs, before, hwhole, _⟩, hx⟩, hsz⟩ := hpre
  refine (walk (w.forCall tape i) w.heap.size i.args ds gs before hargs (DataW.Whole.of_heap (w' := w.forCall tape i) (by rfl) hwhole) (hsz.weights hwhole) (hX _ _ _ (by rfl) hx) hshaped).mono ?_
  rintro e W' ⟨v, rfl, hpost⟩
  exact ChangeSpec.post_blind hpost
end

/-- A law's last step, where its arguments lead to no memory and the call has made new blocks alone. -/
theorem post_law {H : Type} {enc : TypeId × Value → H} {P : Program} {f : Func} {s : ChangeSpec} {W W' : World} {args : Array Value} {v : Value} {ds : List (DataW H)}
    (hW : DataW.Whole enc P f.params.toList s.vars false W args.toList ds [] [])
    (hres : ∀ (b : Nat) (sp : Nat → Bool) (hd : Bool), DataW.TrodAll enc P W' b sp hd f.resultTypes.toList (v.resultList f.resultTypes.size) (s.fn H (ds ++ [])).results [])
    (hargs : ∀ sp : Nat → Bool, DataW.TrodAll enc P W' 0 sp true f.params.toList args.toList (s.fn H (ds ++ [])).args [])
    (hvars : ∀ sp : Nat → Bool, DataW.TrodVars enc P W' sp s.vars (s.fn H (ds ++ [])).vars [])
    (hb : Below W.heap.size W W') : s.post enc P f false true false false W args v W' :=
  ⟨ds, [], [], [], [], [], hW, hres _ _ _, hargs _, hvars _, World.keptBut_mono (fun p hp => by cases hp) (hb.frame (fun _ => False)), fun h => by cases h⟩


theorem array10 {α : Type} {cs : Array α} (h : cs.size = 10) : ∃ c0 c1 c2 c3 c4 c5 c6 c7 c8 c9, cs = #[c0, c1, c2, c3, c4, c5, c6, c7, c8, c9] := by
  obtain ⟨l⟩ := cs
  match l, h with
  | [c0, c1, c2, c3, c4, c5, c6, c7, c8, c9], _ => exact ⟨c0, c1, c2, c3, c4, c5, c6, c7, c8, c9, rfl⟩
theorem okWide_array {P : Program} {W : World} {r : Reach} {b0 : Nat} {t e : TypeId} {n : Nat} {v : Value} (ht : P.underlying t = some (.array n e)) (h : Value.okWide P W r b0 t v) : ∃ cs : Array Value, v = .agg cs ∧ cs.size = P.cellsOf t := by
  simp only [Value.okWide, ht] at h
  obtain ⟨cs, h1, h2, _⟩ := h
  exact ⟨cs, h1, h2⟩
section
variable {H : Type} {enc : TypeId × Value → H} {W : World}
theorem ref_cells {n : Nat} {c0 c1 : Value} {y : DataW H × List MemPlace} (h : DataW.trod enc Tryd.prog W 0 (fun _ => true) true n 24 [c0, c1] = some y) : ∃ r : Rf, c0 = .int .i64 r.1 ∧ c1 = .int .u32 r.2 ∧ Rr r := by
  obtain ⟨y0, y1, m, _, _, h0, h1⟩ := trod_struct2 Tryd.underlying24 h
  have e0 : Tryd.prog.cellsOf 3 = 1 := by kernel_rfl
  have e1 : Tryd.prog.cellsOf 22 = 1 := by kernel_rfl
  simp only [e0, e1, List.drop_zero, List.drop_succ_cons, List.take_succ_cons, List.take_zero] at h0 h1
  obtain ⟨x, k1, _, w1⟩ := DataW.trod_int (t := 3) Tryd.underlying3 h0
  obtain ⟨z, k2, _, w2⟩ := DataW.trod_int (t := 22) Tryd.underlying22 h1
  simp at k1 k2
  have q1 := bounds_i64 w1
  have q2 := bounds_u32 w2
  exact ⟨(x, z), k1, k2, q1.1, q1.2, q2.1, q2.2⟩
set_option maxRecDepth 100000 in
theorem ref_of {r : Reach} {b0 : Nat} {v : Value} {d : DataW H} {p : List MemPlace} (hv : Value.okWide Tryd.prog W r b0 24 v) (h : DataW.Trod enc Tryd.prog W 0 (fun _ => true) true 24 v d p) : ∃ q : Rf, v = rfv q ∧ Rr q := by
  obtain ⟨cs, rfl, hsz⟩ := okWide_struct Tryd.underlying24 hv
  obtain ⟨c0, c1, rfl⟩ := Go.Joins.array2 (hsz.trans (by kernel_rfl))
  obtain ⟨fuel, hf⟩ := h
  obtain ⟨q, rfl, rfl, hq⟩ := ref_cells hf
  exact ⟨q, rfl, hq⟩
set_option maxRecDepth 100000 in
theorem obj_of {r : Reach} {b0 : Nat} {v : Value} {d : DataW H} {p : List MemPlace} (hv : Value.okWide Tryd.prog W r b0 27 v) (h : DataW.Trod enc Tryd.prog W 0 (fun _ => true) true 27 v d p) : ∃ o : Ob, v = obv o ∧ Rg o := by
  obtain ⟨cs, rfl, hsz⟩ := okWide_struct Tryd.underlying27 hv
  obtain ⟨c0, c1, c2, c3, c4, c5, c6, c7, c8, c9, rfl⟩ := array10 (hsz.trans (by kernel_rfl))
  obtain ⟨fuel, hf⟩ := h
  obtain ⟨y0, y1, y2, m, _, _, h0, h1, h2⟩ := Go.Deep.trod_struct3 Tryd.underlying27 hf
  have e0 : Tryd.prog.cellsOf 3 = 1 := by kernel_rfl
  have e1 : Tryd.prog.cellsOf 25 = 8 := by kernel_rfl
  have e2 : Tryd.prog.cellsOf 4 = 1 := by kernel_rfl
  have e3 : Tryd.prog.cellsOf 24 = 2 := by kernel_rfl
  simp only [e0, e1, e2, Value.cells, List.drop_zero, List.drop_succ_cons, List.take_succ_cons, List.take_zero] at h0 h1 h2
  obtain ⟨xs, k, _, _, _, hxl, hx⟩ := DataW.trod_array Tryd.underlying25 h1
  rw [e3] at hx
  have hx0 := hx 0 (by decide)
  have hx1 := hx 1 (by decide)
  have hx2 := hx 2 (by decide)
  have hx3 := hx 3 (by decide)
  simp only [Nat.zero_mul, Nat.one_mul, Nat.reduceMul, List.drop_zero, List.drop_succ_cons, List.take_succ_cons, List.take_zero] at hx0 hx1 hx2 hx3
  rw [List.getElem?_eq_getElem (by omega)] at hx0 hx1 hx2 hx3
  obtain ⟨ra, rfl, rfl, qa⟩ := ref_cells hx0
  obtain ⟨rb, rfl, rfl, qb⟩ := ref_cells hx1
  obtain ⟨rc, rfl, rfl, qc⟩ := ref_cells hx2
  obtain ⟨rd, rfl, rfl, qd⟩ := ref_cells hx3
  obtain ⟨n, k1, _, w1⟩ := DataW.trod_int (t := 3) Tryd.underlying3 h0
  obtain ⟨b, k2, _⟩ := DataW.trod_bool (t := 4) Tryd.underlying4 h2
  simp at k1 k2
  subst k1 k2
  have q1 := bounds_i64 w1
  refine ⟨⟨n, ra, rb, rc, rd, b⟩, rfl, q1.1, q1.2, fun j hj => ?_⟩
  match j, hj with
  | 0, _ => exact qa
  | 1, _ => exact qb
  | 2, _ => exact qc
  | 3, _ => exact qd
/-- Four numbers. -/
structure Four where
  a : Int
  b : Int
  c : Int
  d : Int
def Four.at (x : Four) : Nat → Int
  | 0 => x.a
  | 1 => x.b
  | 2 => x.c
  | _ => x.d
def f8 (x : Four) : Value := .agg #[.int .u8 x.a, .int .u8 x.b, .int .u8 x.c, .int .u8 x.d]
def f32 (x : Four) : Value := .agg #[.int .u32 x.a, .int .u32 x.b, .int .u32 x.c, .int .u32 x.d]
set_option maxRecDepth 100000 in
theorem f8_of {r : Reach} {b0 : Nat} {v : Value} {d : DataW H} {p : List MemPlace} (hv : Value.okWide Tryd.prog W r b0 56 v) (h : DataW.Trod enc Tryd.prog W 0 (fun _ => true) true 56 v d p) : ∃ x : Four, v = f8 x ∧ ∀ j, 0 ≤ x.at j ∧ x.at j ≤ 255 := by
  obtain ⟨cs, rfl, hsz⟩ := okWide_array Tryd.underlying56 hv
  obtain ⟨c0, c1, c2, c3, rfl⟩ := Go.Joins.array4 (hsz.trans (by kernel_rfl))
  obtain ⟨fuel, hf⟩ := h
  obtain ⟨xs, k, _, _, _, hxl, hx⟩ := DataW.trod_array Tryd.underlying56 hf
  have e3 : Tryd.prog.cellsOf 5 = 1 := by kernel_rfl
  rw [e3] at hx
  have hx0 := hx 0 (by decide)
  have hx1 := hx 1 (by decide)
  have hx2 := hx 2 (by decide)
  have hx3 := hx 3 (by decide)
  simp only [Value.cells, Nat.zero_mul, Nat.one_mul, Nat.reduceMul, List.drop_zero, List.drop_succ_cons, List.take_succ_cons, List.take_zero] at hx0 hx1 hx2 hx3
  rw [List.getElem?_eq_getElem (by omega)] at hx0 hx1 hx2 hx3
  obtain ⟨a, k1, _, w1⟩ := DataW.trod_int (t := 5) Tryd.underlying5 hx0
  obtain ⟨b, k2, _, w2⟩ := DataW.trod_int (t := 5) Tryd.underlying5 hx1
  obtain ⟨c, k3, _, w3⟩ := DataW.trod_int (t := 5) Tryd.underlying5 hx2
  obtain ⟨e, k4, _, w4⟩ := DataW.trod_int (t := 5) Tryd.underlying5 hx3
  simp at k1 k2 k3 k4
  subst k1 k2 k3 k4
  refine ⟨⟨a, b, c, e⟩, rfl, fun j => ?_⟩
  match j with
  | 0 => exact bounds_u8 w1
  | 1 => exact bounds_u8 w2
  | 2 => exact bounds_u8 w3
  | _ + 3 => exact bounds_u8 w4
set_option maxRecDepth 100000 in
theorem f32_of {r : Reach} {b0 : Nat} {v : Value} {d : DataW H} {p : List MemPlace} (hv : Value.okWide Tryd.prog W r b0 57 v) (h : DataW.Trod enc Tryd.prog W 0 (fun _ => true) true 57 v d p) : ∃ x : Four, v = f32 x ∧ ∀ j, 0 ≤ x.at j ∧ x.at j ≤ 4294967295 := by
  obtain ⟨cs, rfl, hsz⟩ := okWide_array Tryd.underlying57 hv
  obtain ⟨c0, c1, c2, c3, rfl⟩ := Go.Joins.array4 (hsz.trans (by kernel_rfl))
  obtain ⟨fuel, hf⟩ := h
  obtain ⟨xs, k, _, _, _, hxl, hx⟩ := DataW.trod_array Tryd.underlying57 hf
  have e3 : Tryd.prog.cellsOf 22 = 1 := by kernel_rfl
  rw [e3] at hx
  have hx0 := hx 0 (by decide)
  have hx1 := hx 1 (by decide)
  have hx2 := hx 2 (by decide)
  have hx3 := hx 3 (by decide)
  simp only [Value.cells, Nat.zero_mul, Nat.one_mul, Nat.reduceMul, List.drop_zero, List.drop_succ_cons, List.take_succ_cons, List.take_zero] at hx0 hx1 hx2 hx3
  rw [List.getElem?_eq_getElem (by omega)] at hx0 hx1 hx2 hx3
  obtain ⟨a, k1, _, w1⟩ := DataW.trod_int (t := 22) Tryd.underlying22 hx0
  obtain ⟨b, k2, _, w2⟩ := DataW.trod_int (t := 22) Tryd.underlying22 hx1
  obtain ⟨c, k3, _, w3⟩ := DataW.trod_int (t := 22) Tryd.underlying22 hx2
  obtain ⟨e, k4, _, w4⟩ := DataW.trod_int (t := 22) Tryd.underlying22 hx3
  simp at k1 k2 k3 k4
  subst k1 k2 k3 k4
  refine ⟨⟨a, b, c, e⟩, rfl, fun j => ?_⟩
  match j with
  | 0 => exact bounds_u32 w1
  | 1 => exact bounds_u32 w2
  | 2 => exact bounds_u32 w3
  | _ + 3 => exact bounds_u32 w4
end
end Go.Proofs.YtmbkhkijmfogcaaDoor
