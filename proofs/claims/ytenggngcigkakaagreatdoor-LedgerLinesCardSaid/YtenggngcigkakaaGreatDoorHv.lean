/- The contract of the program's Print. -/
import Derived.Test.YtenggngcigkakaaGreatDoorHu
import Derived.Test.YtenggngcigkakaaGreatDoorSw7
namespace Go.Proofs.YtenggngcigkakaaGreatDoor
open Go.RowKit

/-! ### a builder of one's own -/
theorem isF_below {T e : TypeId} {B b : Nat} {bs : List Value} {w w' : World} (h : Lib.IsBuilderF T e B b bs w) (hb : Below w.heap.size w w') : Lib.IsBuilderF T e B b bs w' := by
  have hg : w.grownBy w' none := ⟨hb.os, hb.tape, hb.output, hb.size, fun k hk _ => hb.block k hk⟩
  have key : ∀ p, Lib.BuilderAtF T e B b p bs w → Lib.BuilderAtF T e B b p bs w' := by
    intro p k
    have hlt := k.lt
    obtain ⟨h1, v, h2, h3, h4⟩ := k
    exact ⟨h1, v, (hb.block _ hlt).trans h2, h3.kept hg (by cases hv : v.ownBlock <;> simp), h4⟩
  exact h.elim (fun x => .inl (key _ x)) (fun x => .inr (key _ x))
theorem cells_line (t : List UInt8) : Lib.strCells (bstr t ++ ⟨#[10]⟩) = Lib.byteCells (t ++ [10]) := by
  rw [Lib.strCells_eq]
  congr 1

/-! ### Print -/
set_option maxRecDepth 100000 in
set_option maxHeartbeats 4000000 in
theorem lprint_bad (a : Option Addr) (n c : Nat) (l : List Att) (w : World) (hr : RdA w (.slice a n c) l) (hg : AllRg l) (h : ¬ AllOk l) (he : EnvL w) : Calls Tryz.prog 35 #[.slice a n c] w (TextV [] 2 w) := by
  have HE := Lib.hid he
  have HG := Lib.hid hg
  have HNO := Lib.hid h
  obtain ⟨rfl, hcap, hcm, _⟩ := hr.cap
  have HR := Lib.hid hr
  clear hr he hg h
  go_enter Tryz.func35, Tryz.ntmps35
  go_wp2
  go_loopw [14] (fun i wr => ∃ j : Nat, j ≤ l.length ∧ i = .int .i64 j ∧ Hid (AllOk (l.take j)) ∧ Hid (Below w.heap.size w wr)) (fun i _ => l.length - (intOf i).toNat)
  case atStart => exact ⟨0, Nat.zero_le _, rfl, allOk_nil, Below.refl _ _⟩
  case round =>
    obtain ⟨j, hj, rfl, HO, HB⟩ := hrel
    by_cases hlt : j < l.length
    · obtain ⟨gl, off, rfl, hgl, hsix⟩ := (HR.out.below HB.out).cell hlt
      have HXR := Lib.hid (HG.out _ (List.getElem_mem hlt))
      have HSN := Lib.hid (fun hx => allOk_take hlt HO.out hx)
      have HBD : Hid (¬ l[j].Ok → True) := fun _ => trivial
      generalize l[j] = x at *
      obtain ⟨c0, c1, c2, c3, c4, c5⟩ := hsix
      have hW3 := bel_new wr (.cells #[.int .i64 x.t, .int .i64 x.k, .int .i64 x.i, .int .u32 x.g, .int .i64 x.y, .int .i64 x.n] 32)
      have hbx : Bk (wr.alloc (.cells #[.int .i64 x.t, .int .i64 x.k, .int .i64 x.i, .int .u32 x.g, .int .i64 x.y, .int .i64 x.n] 32)) wr.heap.size 32 x.cl.toArray := Bk.new wr _ _
      obtain ⟨d0, d1, d2, d3, d4, d5⟩ := six_new hbx
      simp only [Nat.zero_add] at d0 d1 d2 d3 d4 d5
      have HBW := Lib.hid (bel2 HB.out hW3)
      clear hW3 hbx HBD
      go_wp2_with fail
      generalize wr.alloc (.cells #[.int .i64 x.t, .int .i64 x.k, .int .i64 x.i, .int .u32 x.g, .int .i64 x.y, .int .i64 x.n] 32) = W3 at *
      clear c0 c1 c2 c3 c4 c5
      refine (chk_att x HXR.out _ (HE.out.below HBW.out)).mono ?_
      rintro e w4 ⟨rfl, hb4⟩
      have HB4 := Lib.hid (bel2 HBW.out hb4)
      clear hb4 d0 d1 d2 d3 d4 d5
      by_cases hx : x.Ok
      · rw [chkE_ok hx]
        have HS2 := Lib.hid (HSN.out hx)
        clear hx
        go_wp2
        go_roundw
        case rel => exact ⟨j + 1, by omega, by go_num, HS2.out, HB4.out⟩
        case measure => simp [intOf]; omega
      · rw [chkE_bad hx]
        clear hx
        go_wp2
        go_ret2
        exact ⟨rfl, HB4.out⟩
    · obtain rfl : j = l.length := by omega
      have := HO.out
      rw [List.take_length] at this
      exact absurd this HNO.out
set_option maxRecDepth 100000 in
set_option maxHeartbeats 8000000 in
theorem lprint_ok (a : Option Addr) (n c : Nat) (l : List Att) (w : World) (hr : RdA w (.slice a n c) l) (h : AllOk l) (he : EnvL w) : Calls Tryz.prog 35 #[.slice a n c] w (TextV (if (lines l).length ≤ 65536 then lines l else []) (if (lines l).length ≤ 65536 then 0 else 10) w) := by
  have HE := Lib.hid he
  have HG := Lib.hid h.rg
  have HOK := Lib.hid h
  obtain ⟨rfl, hcap, hcm, _⟩ := hr.cap
  have HR := Lib.hid hr
  have HTE : Hid (((lines l).length ≤ 65536 → (if (lines l).length ≤ 65536 then lines l else []) = lines l ∧ (if (lines l).length ≤ 65536 then (0 : Int) else 10) = 0) ∧ (65536 < (lines l).length → (if (lines l).length ≤ 65536 then lines l else []) = [] ∧ (if (lines l).length ≤ 65536 then (0 : Int) else 10) = 10)) := ⟨fun h => ⟨if_pos h, if_pos h⟩, fun h => ⟨if_neg (by omega), if_neg (by omega)⟩⟩
  generalize (if (lines l).length ≤ 65536 then lines l else []) = T at *
  generalize (if (lines l).length ≤ 65536 then (0 : Int) else 10) = E at *
  clear hr he h
  go_enter Tryz.func35, Tryz.ntmps35
  go_wp2
  go_loopw [14] (fun i wr => ∃ j : Nat, j ≤ l.length ∧ i = .int .i64 j ∧ Hid (Below w.heap.size w wr)) (fun i _ => l.length - (intOf i).toNat)
  case atStart => exact ⟨0, Nat.zero_le _, rfl, Below.refl _ _⟩
  case round =>
    obtain ⟨j, hj, rfl, HB⟩ := hrel
    by_cases hlt : j < l.length
    · obtain ⟨gl, off, rfl, hgl, hsix⟩ := (HR.out.below HB.out).cell hlt
      have HXO := Lib.hid (HOK.out _ (List.getElem_mem hlt))
      generalize l[j] = x at *
      obtain ⟨c0, c1, c2, c3, c4, c5⟩ := hsix
      have hW3 := bel_new wr (.cells #[.int .i64 x.t, .int .i64 x.k, .int .i64 x.i, .int .u32 x.g, .int .i64 x.y, .int .i64 x.n] 32)
      have hbx : Bk (wr.alloc (.cells #[.int .i64 x.t, .int .i64 x.k, .int .i64 x.i, .int .u32 x.g, .int .i64 x.y, .int .i64 x.n] 32)) wr.heap.size 32 x.cl.toArray := Bk.new wr _ _
      obtain ⟨d0, d1, d2, d3, d4, d5⟩ := six_new hbx
      simp only [Nat.zero_add] at d0 d1 d2 d3 d4 d5
      have HBW := Lib.hid (bel2 HB.out hW3)
      clear hW3 hbx
      go_wp2_with fail
      generalize wr.alloc (.cells #[.int .i64 x.t, .int .i64 x.k, .int .i64 x.i, .int .u32 x.g, .int .i64 x.y, .int .i64 x.n] 32) = W3 at *
      clear c0 c1 c2 c3 c4 c5
      refine (chk_att x HXO.out.rg _ (HE.out.below HBW.out)).mono ?_
      rintro e w4 ⟨rfl, hb4⟩
      have HB4 := Lib.hid (bel2 HBW.out hb4)
      clear hb4 d0 d1 d2 d3 d4 d5
      rw [chkE_ok HXO.out]
      go_wp2
      go_roundw
      case rel => exact ⟨j + 1, by omega, by go_num, HB4.out⟩
      case measure => simp [intOf]; omega
    · obtain rfl : j = l.length := by omega
      clear hlt
      have HNB := Lib.hid (Lib.IsBuilderF.of (Lib.fresh_isBuilder 97 5 wr))
      have HBN := Lib.hid (bel2 HB.out (bel_new wr (.cells #[.pointer none, .slice none 0 0] 97)))
      have HSZ : Hid (wr.heap.size ≤ (wr.alloc (.cells #[.pointer none, .slice none 0 0] 97)).heap.size) := by rw [Hid, size_up]; omega
      go_wp2
      generalize wr.alloc (.cells #[.pointer none, .slice none 0 0] 97) = W1 at *
      have HWB : Hid (w.heap.size ≤ wr.heap.size) := HB.out.size
      generalize wr.heap.size = B at *
      clear HB
      clear wr
      go_loopw [26] (fun i wr => ∃ j : Nat, j ≤ l.length ∧ i = .int .i64 j ∧ Hid (Lib.IsBuilderF 97 5 B B (Lib.byteCells (lines (l.take j))) wr) ∧ Hid ((lines (l.take j)).length ≤ 65536) ∧ Hid (B ≤ wr.heap.size) ∧ Hid (Below w.heap.size w wr)) (fun i _ => l.length - (intOf i).toNat)
      case atStart => exact ⟨0, Nat.zero_le _, rfl, HNB, Nat.zero_le _, HSZ, HBN⟩
      case round =>
        obtain ⟨j, hj, rfl, HIB, HLE, HBZ, HB⟩ := hrel
        by_cases hlt : j < l.length
        · obtain ⟨gl, off, rfl, hgl, hsix⟩ := (HR.out.below HB.out).cell hlt
          have HXO := Lib.hid (HOK.out _ (List.getElem_mem hlt))
          have HSN := Lib.hid (lines_snoc l j hlt)
          have HPF : Hid ((lines (l.take (j + 1))).length ≤ (lines l).length) := by
            have e := List.take_append_drop (j + 1) l
            have e2 := lines_append (l.take (j + 1)) (l.drop (j + 1))
            rw [e] at e2
            rw [Hid, e2, List.length_append]; omega
          generalize l[j] = x at *
          obtain ⟨c0, c1, c2, c3, c4, c5⟩ := hsix
          have hW3 := bel_new wr (.cells #[.int .i64 x.t, .int .i64 x.k, .int .i64 x.i, .int .u32 x.g, .int .i64 x.y, .int .i64 x.n] 32)
          have hbx : Bk (wr.alloc (.cells #[.int .i64 x.t, .int .i64 x.k, .int .i64 x.i, .int .u32 x.g, .int .i64 x.y, .int .i64 x.n] 32)) wr.heap.size 32 x.cl.toArray := Bk.new wr _ _
          obtain ⟨d0, d1, d2, d3, d4, d5⟩ := six_new hbx
          simp only [Nat.zero_add] at d0 d1 d2 d3 d4 d5
          have HBW := Lib.hid (bel2 HB.out hW3)
          have HIW := Lib.hid (isF_below HIB.out hW3)
          have HBZ3 := Lib.hid (Nat.le_trans HBZ.out hW3.size)
          clear hW3 hbx
          go_wp2_with fail
          generalize wr.alloc (.cells #[.int .i64 x.t, .int .i64 x.k, .int .i64 x.i, .int .u32 x.g, .int .i64 x.y, .int .i64 x.n] 32) = W3 at *
          clear c0 c1 c2 c3 c4 c5
          refine (ltext_ok x HXO.out _ (HE.out.below HBW.out)).mono ?_
          rintro e w4 ⟨rfl, hb4⟩
          have HB4 := Lib.hid (bel2 HBW.out hb4)
          have HIW4 := Lib.hid (isF_below HIW.out hb4)
          have HBZ4 := Lib.hid (Nat.le_trans HBZ3.out hb4.size)
          clear hb4 d0 d1 d2 d3 d4 d5
          have hsx := aText_size HXO.out
          have HCL := Lib.hid (cells_line (aText x))
          have HSS : Hid ((bstr (aText x) ++ (⟨#[10]⟩ : ByteArray)).size ≤ 51) := by
            have e := Lib.strCells_length (bstr (aText x) ++ ⟨#[10]⟩)
            rw [cells_line, Lib.byteCells_length, List.length_append] at e
            have e3 : ([10] : List UInt8).length = 1 := rfl
            rw [Hid, ← e, e3]; omega
          have hss : (bstr (aText x)).size ≤ 50 := by rw [bstr_size]; omega
          generalize bstr (aText x) = S at *
          generalize aText x = U at *
          clear hsx
          have f1 : ¬ 9223372036854775807 < S.size + 1 := by omega
          go_wp2_with fail
          refine (Tryz.Builder_WriteString_f B B _ _ _ HIW4.out (by rw [Lib.byteCells_length]; have := HLE.out; have := HSS.out; omega) HBZ4.out).mono ?_
          rintro e w5 ⟨rfl, hat, hb5⟩
          have HB5 := Lib.hid (HB4.out.trans (hb5.mono HWB.out))
          have HBZ5 := Lib.hid (Nat.le_trans HBZ4.out hb5.size)
          rw [HCL.out, ← Lib.byteCells_append, ← HSN.out] at hat
          have HI5 : Hid (Lib.IsBuilderF 97 5 B B (Lib.byteCells (lines (l.take (j + 1)))) w5) := Or.inr hat
          clear hat hb5 f1
          go_wp2_with fail
          refine (Tryz.Builder_Len_f B B _ _ HI5.out).mono ?_
          rintro e w6 ⟨rfl, rfl⟩
          rw [Lib.byteCells_length]
          by_cases hbig : (lines (l.take (j + 1))).length ≤ 65536
          · have HLE2 : Hid ((lines (l.take (j + 1))).length ≤ 65536) := hbig
            generalize (lines (l.take (j + 1))).length = Z at hbig ⊢
            go_wp2
            go_roundw
            case rel => exact ⟨j + 1, by omega, by go_num, HI5.out, HLE2.out, HBZ5.out, HB5.out⟩
            case measure => simp [intOf]; omega
          · obtain ⟨rfl, rfl⟩ := HTE.out.2 (by have := HPF.out; omega)
            generalize (lines (l.take (j + 1))).length = Z at *
            go_wp2
            go_ret2
            exact ⟨rfl, HB5.out⟩
        · obtain rfl : j = l.length := by omega
          have hle := HLE.out
          have hib := HIB.out
          rw [List.take_length] at hle hib
          have HIB2 := Lib.hid hib
          clear hlt hib
          obtain ⟨rfl, rfl⟩ := HTE.out.1 hle
          go_wp2_with fail
          refine (Tryz.Builder_String_any_f _ _ _ _ HIB2.out HBZ.out).mono ?_
          rintro e w2 ⟨rfl, -, hb2⟩
          have HB2 := Lib.hid (HB.out.trans (hb2.mono HWB.out))
          clear hb2
          go_wp2
          go_ret2
          exact ⟨rfl, HB2.out⟩
end Go.Proofs.YtenggngcigkakaaGreatDoor
