/- The contract of the program's Parse. -/
import Derived.Test.YtenggngcigkakaaGreatDoorHv
namespace Go.Proofs.YtenggngcigkakaaGreatDoor
open Go.RowKit

theorem first_line : ∀ l : List UInt8, (∃ x r, l = x ++ 10 :: r ∧ ∀ b ∈ x, b ≠ 10) ∨ (∀ b ∈ l, b ≠ 10)
  | [] => .inr fun b hb => by cases hb
  | c :: l => by
    by_cases hc : c = 10
    · exact .inl ⟨[], l, by rw [hc]; rfl, fun b hb => by cases hb⟩
    · rcases first_line l with ⟨x, r, e, hx⟩ | h
      · exact .inl ⟨c :: x, r, by rw [e]; rfl, fun b hb => by
          rcases List.mem_cons.1 hb with rfl | hb
          · exact hc
          · exact hx b hb⟩
      · refine .inr fun b hb => ?_
        rcases List.mem_cons.1 hb with rfl | hb
        · exact hc
        · exact h b hb
theorem cut_none {m : UInt8} (a : List UInt8) (h : ∀ x ∈ a, x ≠ m) : Lib.cut a [m] = (a, [], false) := by
  unfold Lib.cut
  rw [index_none a h, if_neg (by omega)]
/-- The text up to the first end of a line, and behind it. -/
def CutV (l : List UInt8) (w : World) (e : Ending) (w' : World) : Prop := ∃ x r f, e = .returned (.tuple #[.string (bstr x), .string (bstr r), .bool f]) ∧ (∀ b ∈ x, b ≠ 10) ∧ x.length ≤ l.length ∧ ((f = true ∧ l = x ++ 10 :: r) ∨ (f = false ∧ x = l)) ∧ Below w.heap.size w w'
theorem cut_ok (l : List UInt8) (hl : l.length ≤ 65536) (w : World) (he : EnvL w) : Calls Tryz.prog 66 #[.string (bstr l), .string ⟨#[10]⟩] w (CutV l w) := by
  obtain ⟨M, hM⟩ := he.env.ml
  refine (Tryz.strings_Cut (bstr l) ⟨#[10]⟩ M w (by rw [bstr_size]; omega) hM).mono ?_
  rintro e w' ⟨rfl, n, rfl⟩
  have hd : (⟨#[10]⟩ : ByteArray).data.toList = [10] := rfl
  rw [bstr_data, hd]
  rcases first_line l with ⟨x, r, e, hx⟩ | h
  · rw [e, cut_mark x r hx]
    exact ⟨x, r, true, rfl, hx, by simp, .inl ⟨rfl, rfl⟩, bel_drn _ _⟩
  · rw [cut_none l h]
    exact ⟨l, [], false, rfl, h, Nat.le_refl _, .inr ⟨rfl, rfl⟩, bel_drn _ _⟩
theorem own_slice {w : World} {base n s : Nat} {e : TypeId} {v : Value} {xs : List Value} (h : w.ownsRow base e s v n xs) : ∃ p c, v = .slice p n c := by
  rcases h.2 with ⟨rfl, h0⟩ | ⟨g, cap, cur, rfl, _⟩
  · exact ⟨none, 0, by rw [h0]⟩
  · exact ⟨_, _, rfl⟩
def strLen : Value → Nat
  | .string s => s.size
  | _ => 0

/-- What Parse gives of a text that is not too long. -/
def ParseV (l : List UInt8) (w : World) (e : Ending) (w' : World) : Prop := ∃ ys r, PRel l ys r ∧ Below w.heap.size w w' ∧ ((r = [] ∧ ∃ v, e = .returned (.tuple #[v, .int .i64 0, .int .i64 0]) ∧ w'.ownsRow w.heap.size 32 6 v ys.length (cls ys)) ∨ (r ≠ [] ∧ e = .returned (.tuple #[.slice none 0 0, .int .i64 ((ys.length : Int) + 1), .int .i64 9])))
set_option maxRecDepth 100000 in
theorem lparse_long (l : List UInt8) (hl : 65536 < l.length) (w : World) : Calls Tryz.prog 37 #[.string (bstr l)] w fun e w' => e = .returned (.tuple #[.slice none 0 0, .int .i64 0, .int .i64 10]) ∧ w = w' := by
  have hs : 65536 < (bstr l).size := by rw [bstr_size]; exact hl
  generalize bstr l = S at *
  go_enter Tryz.func37, Tryz.ntmps37
  go_wp2
  go_ret3
  exact ⟨rfl, rfl⟩
set_option maxRecDepth 100000 in
set_option maxHeartbeats 8000000 in
theorem lparse_ok (l : List UInt8) (hl : l.length ≤ 65536) (w : World) (he : EnvL w) : Calls Tryz.prog 37 #[.string (bstr l)] w (ParseV l w) := by
  have HE := Lib.hid he
  obtain ⟨j0, hj, hy0, hy1, hy2⟩ := info_parts info_att
  have hs : (bstr l).size ≤ 65536 := by rw [bstr_size]; exact hl
  obtain ⟨S, hS⟩ : ∃ S, bstr l = S := ⟨_, rfl⟩
  rw [hS] at hs ⊢
  have HSL := Lib.hid hS
  clear he hS
  go_enter Tryz.func37, Tryz.ntmps37
  go_wp2
  go_loopw [0, 5] (fun t v wr => ∃ ys rest, t = .string (bstr rest) ∧ Hid (l = lines ys ++ rest) ∧ Hid (AllOk ys) ∧ Hid (wr.ownsRow w.heap.size 32 6 v ys.length (cls ys)) ∧ Hid (Below w.heap.size w wr)) (fun t _ _ => strLen t)
  case atStart => exact ⟨[], l, by rw [HSL.out], rfl, allOk_nil, World.ownsRow_nil _ _ _ _, Below.refl _ _⟩
  case round =>
    obtain ⟨ys, rest, rfl, HEQ, HOK, HOW, HB⟩ := hrel
    by_cases hr : rest = []
    · subst hr
      have h0 : bstr [] = (⟨#[]⟩ : ByteArray) := rfl
      rw [h0]
      clear h0
      go_wp2
      go_ret3
      exact ⟨ys, [], ⟨HEQ.out, HOK.out, .inl rfl⟩, HB.out, .inl ⟨rfl, _, rfl, HOW.out⟩⟩
    · have HR := Lib.hid hr
      obtain ⟨vp, vc, rfl⟩ := own_slice HOW.out
      have hq1 : ((bstr rest).toList == ([] : List UInt8)) = false := by rw [beq_eq_false_iff_ne, ByteArray.toList_eq]; exact hr
      have hq2 : (bstr rest).toList ≠ [] := by rw [ByteArray.toList_eq]; exact hr
      have HRL : Hid (rest.length ≤ 65536) := by
        have e := congrArg List.length HEQ.out
        rw [List.length_append] at e
        rw [Hid]; omega
      have hal : ys.length ≤ 4096 := by
        have e := congrArg List.length HEQ.out
        have := (lines_size HOK.out).1
        rw [List.length_append] at e
        omega
      have HCUT := Lib.hid (cut_ok rest HRL.out wr (HE.out.below HB.out))
      have HSZ : Hid ((bstr rest).size = rest.length) := bstr_size rest
      obtain ⟨RS, hRS⟩ : ∃ RS, bstr rest = RS := ⟨_, rfl⟩
      rw [hRS] at hq1 hq2 HCUT HSZ ⊢
      clear hRS hr
      go_wp2_with fail
      refine HCUT.out.mono ?_
      rintro e w1 ⟨x, r, f, rfl, hx10, hxl, hf, hb1⟩
      have HX := Lib.hid (And.intro hx10 (And.intro hxl hf))
      have HB1 := Lib.hid (bel2 HB.out hb1)
      have HO1 := Lib.hid (own_below HOW.out hb1)
      clear hx10 hxl hf hb1 hq1 hq2 HCUT
      go_wp2_with fail
      refine (read_anyL (bstr x) (by rw [bstr_size]; have := HRL.out; have := HX.out.2.1; omega) _ (HE.out.below HB1.out)).mono ?_
      rintro e w2 ⟨a, har, rfl, hab, hb2⟩
      rw [bstr_data] at hab
      rw [show a.val = .agg #[.int .i64 a.t, .int .i64 a.k, .int .i64 a.i, .int .u32 a.g, .int .i64 a.y, .int .i64 a.n] from rfl]
      have HAB := Lib.hid hab
      have HBAD : Hid ((¬ a.Ok ∨ x ≠ aText a ∨ f = false) → BadLine rest) := fun hc => by
        obtain ⟨h1, h2, h3⟩ := HX.out
        rcases h3 with ⟨h4, h5⟩ | ⟨h4, h5⟩
        · refine bad_of_line h5 h1 fun b hb e => ?_
          have hab2 := hab b hb e
          subst hab2
          rcases hc with hc | hc | hc
          · exact hc hb
          · exact hc e
          · rw [h4] at hc; cases hc
        · exact bad_of_end HR.out (by rw [← h5]; exact h1)
      have HAR := Lib.hid har
      have HB2 := Lib.hid (bel2 HB1.out hb2)
      have HO2 := Lib.hid (own_below HO1.out hb2)
      clear har hab hb2
      have hW3 := bel_new w2 (.cells #[.int .i64 a.t, .int .i64 a.k, .int .i64 a.i, .int .u32 a.g, .int .i64 a.y, .int .i64 a.n] 32)
      have hbx : Bk (w2.alloc (.cells #[.int .i64 a.t, .int .i64 a.k, .int .i64 a.i, .int .u32 a.g, .int .i64 a.y, .int .i64 a.n] 32)) w2.heap.size 32 a.cl.toArray := Bk.new w2 _ _
      obtain ⟨d0, d1, d2, d3, d4, d5⟩ := six_new hbx
      simp only [Nat.zero_add] at d0 d1 d2 d3 d4 d5
      have HB3 := Lib.hid (bel2 HB2.out hW3)
      have HO3 := Lib.hid (own_below HO2.out hW3)
      have HBX := Lib.hid hbx
      clear hW3 hbx
      go_wp2_with fail
      generalize w2.alloc (.cells #[.int .i64 a.t, .int .i64 a.k, .int .i64 a.i, .int .u32 a.g, .int .i64 a.y, .int .i64 a.n] 32) = W3 at *
      by_cases ha : a.Ok
      · refine (ltext_ok a ha _ (HE.out.below HB3.out)).mono ?_
        rintro e w4 ⟨rfl, hb4⟩
        have HB4 := Lib.hid (bel2 HB3.out hb4)
        have HO4 := Lib.hid (own_below HO3.out hb4)
        have HBX4 := Lib.hid (HBX.out.below hb4)
        have HA := Lib.hid ha
        clear hb4 d0 d1 d2 d3 d4 d5 ha
        by_cases hxa : x = aText a
        · subst hxa
          rcases HX.out.2.2 with ⟨rfl, hxr⟩ | ⟨rfl, hxr⟩
          · -- one more
            have HXR := Lib.hid hxr
            clear hxr
            obtain ⟨d0, d1, d2, d3, d4, d5⟩ := six_new HBX4.out
            simp only [Nat.zero_add] at d0 d1 d2 d3 d4 d5
            have hown := HO4.out
            generalize bstr (aText a) = U at *
            generalize hSR : bstr r = SR at *
            have HSR := Lib.hid hSR
            clear hSR
            go_wp2_with (at_builtin; refine wpList_append_own _ rfl _ _ 22 rfl w.heap.size 32 j0 _ 6 48 Tryz.underlying22 hj hy0 hy1 hy2 rfl (by decide) _ ys.length (cls ys) rfl (hown.alloc _) ⟨w4.heap.size, 0, none⟩ 1 1 a.cl rfl rfl ?c1 (cl_one a) ?c3 ?c4 ?c5 ?_)
            case c1 => exact news_new _ _
            case c3 => unfold maxLen; omega
            case c4 => omega
            case c5 => have := HB4.out.size; simp; omega
            intro v' w5 hown' hgrow _
            have HB5 : Hid (Below w.heap.size w w5) := (HB4.out.alloc HB4.out.size _).grown hgrow (by have := HB4.out.size; simp; omega) (fun q hq => (hown.lt q hq).1)
            have HO5 : Hid (w5.ownsRow w.heap.size 32 6 v' (ys ++ [a]).length (cls (ys ++ [a]))) := by
              rw [Hid, cls_snoc, List.length_append]; exact hown'
            clear hown' hgrow hown d0 d1 d2 d3 d4 d5
            go_wp2
            go_roundw
            case rel => exact ⟨ys ++ [a], r, by rw [HSR.out], by rw [Hid, HEQ.out, HXR.out, lines_append, lines_one]; simp, allOk_append.2 ⟨HOK.out, allOk_one.2 HA.out⟩, HO5.out, HB5.out⟩
            case measure =>
              have e1 := congrArg List.length HXR.out
              have e2 := HSZ.out
              have e3 := bstr_size r
              rw [HSR.out] at e3
              rw [List.length_append, List.length_cons] at e1
              simp [strLen]; omega
          · have hbad := HBAD.out (.inr (.inr rfl))
            have HBD := Lib.hid hbad
            clear hbad hxr
            generalize bstr (aText a) = U at *
            go_wp2
            go_ret3
            exact ⟨ys, rest, ⟨HEQ.out, HOK.out, .inr HBD.out⟩, HB4.out, .inr ⟨HR.out, rfl⟩⟩
        · have hbad := HBAD.out (.inr (.inl hxa))
          have HBD := Lib.hid hbad
          have hq1 : ((bstr (aText a)).toList == (bstr x).toList) = false := by rw [beq_eq_false_iff_ne, ByteArray.toList_eq, ByteArray.toList_eq]; exact fun e => hxa e.symm
          clear hbad hxa
          generalize bstr (aText a) = U at *
          generalize bstr x = V at *
          go_wp2
          go_ret3
          exact ⟨ys, rest, ⟨HEQ.out, HOK.out, .inr HBD.out⟩, HB4.out, .inr ⟨HR.out, rfl⟩⟩
      · have hbad := HBAD.out (.inl ha)
        have HBD := Lib.hid hbad
        refine (ltext_bad a HAR.out ha _ (HE.out.below HB3.out)).mono ?_
        rintro e w4 ⟨rfl, hb4⟩
        have HB4 := Lib.hid (bel2 HB3.out hb4)
        clear hb4 d0 d1 d2 d3 d4 d5 ha hbad
        go_wp2
        go_ret3
        exact ⟨ys, rest, ⟨HEQ.out, HOK.out, .inr HBD.out⟩, HB4.out, .inr ⟨HR.out, rfl⟩⟩
end Go.Proofs.YtenggngcigkakaaGreatDoor
