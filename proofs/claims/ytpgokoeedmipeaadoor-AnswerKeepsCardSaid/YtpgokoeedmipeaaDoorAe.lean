/- The contracts of Print (both), of Same, and of the helpers letters and ofs. -/
import Derived.Test.YtpgokoeedmipeaaDoorAa
import Derived.Deep.RegionWith
import Derived.Laws.IdiomStrings
namespace Go.Proofs.YtpgokoeedmipeaaDoor
open Go.RowKit

/-! ### slices that are read -/
/-- The slice value v reads as the numbers l, of kind k, cell for cell. -/
def Rd (k : IntKind) (w : World) (v : Value) (l : List Int) : Prop :=
  ∃ a c, v = .slice a l.length c ∧ l.length ≤ c ∧ c ≤ 9223372036854775807 ∧ (a = none → c = 0) ∧ (0 < l.length → ∃ g off, a = some ⟨g, off, none⟩ ∧ g < w.heap.size ∧ ∀ j x, l[j]? = some x → w.cell? ⟨g, off + j, none⟩ = some (.int k x))
section
variable {k : IntKind} {w w' : World} {v : Value} {l : List Int}
theorem Rd.below (h : Rd k w v l) (hb : Below w.heap.size w w') : Rd k w' v l := by
  obtain ⟨a, c, e, h1, h2, h3, h4⟩ := h
  refine ⟨a, c, e, h1, h2, h3, fun h0 => ?_⟩
  obtain ⟨g, off, e2, hg, hc⟩ := h4 h0
  exact ⟨g, off, e2, Nat.lt_of_lt_of_le hg hb.size, fun j x hj => (hb.cell (p := ⟨g, off + j, none⟩) hg).trans (hc j x hj)⟩
theorem Rd.of_sl (h : Sl w v l) : Rd .i64 w v l := by
  obtain ⟨a, c, e, h1, h2, h3, h4⟩ := h
  refine ⟨a, c, e, h1, by unfold maxLen at h2; omega, h3, fun h0 => ?_⟩
  cases a with
  | none => have := h3 rfl; omega
  | some b =>
    obtain ⟨g, off, cur, e2, hg, hc⟩ := h4 b rfl
    exact ⟨g, off, by rw [e2], hg.lt, fun j x hj => by rw [hg.cell]; exact hc j x hj⟩
theorem Rd.len (h : Rd k w v l) : ∃ a c, v = .slice a l.length c ∧ Rd k w (.slice a l.length c) l := by
  obtain ⟨a, c, e, _⟩ := id h
  subst e
  exact ⟨a, c, rfl, h⟩
theorem Rd.cap {a : Option Addr} {n c : Nat} (h : Rd k w (.slice a n c) l) : n = l.length ∧ l.length ≤ c ∧ c ≤ 9223372036854775807 ∧ (a = none → c = 0) := by
  obtain ⟨a', c', e, h1, h2, h3, h4⟩ := h
  injection e with e1 e2 e3
  subst e1 e2 e3
  exact ⟨rfl, h1, h2, h3⟩
theorem Rd.cell {a : Option Addr} {n c : Nat} (h : Rd k w (.slice a n c) l) {j : Nat} (hj : j < l.length) : ∃ g off, a = some ⟨g, off, none⟩ ∧ g < w.heap.size ∧ w.cell? ⟨g, off + j, none⟩ = some (.int k l[j]) := by
  obtain ⟨a', c', e, h1, h2, h3, h4⟩ := h
  injection e with e1 e2 e3
  subst e1 e2 e3
  obtain ⟨g, off, e2, hg, hc⟩ := h4 (by omega)
  exact ⟨g, off, e2, hg, hc j _ (List.getElem?_eq_getElem hj)⟩
/-- The first m elements. -/
theorem Rd.take {a : Option Addr} {n c m : Nat} (h : Rd k w (.slice a n c) l) (hm : m ≤ l.length) : Rd k w (.slice a m c) (l.take m) := by
  obtain ⟨a', c', e, h1, h2, h3, h4⟩ := h
  injection e with e1 e2 e3
  subst e1 e3
  refine ⟨a, c, by rw [List.length_take, Nat.min_eq_left hm], by rw [List.length_take]; omega, h2, h3, fun h0 => ?_⟩
  rw [List.length_take] at h0
  obtain ⟨g, off, e4, hg, hc⟩ := h4 (by omega)
  refine ⟨g, off, e4, hg, fun j x hj => hc j x ?_⟩
  rw [List.getElem?_take] at hj
  split at hj
  · exact hj
  · cases hj
end

/-! ### bytes and strings -/
def bytes (l : List UInt8) : List Value := l.map fun b => .int .u8 (b.toNat : Int)
theorem info_u8 : (Tryd.prog.info? 5).map (fun i => (i.zero, i.size, i.bytes)) = some (some (.int .u8 0), 1, 1) := by kernel_rfl
/-- A slice of bytes of one's own, as a string. -/
theorem conv_own {W : World} {base : Nat} {v : Value} {l : List UInt8} (h : W.ownsRow base 5 1 v l.length (bytes l)) : (convert 22 9 v).run Tryd.prog W = .ok (.string ⟨l.toArray⟩) W := by
  rcases h.2 with ⟨rfl, h0⟩ | ⟨g, cap, cur, rfl, h1, h2, h3, h4, h5, h6⟩
  · have : l = [] := List.eq_nil_of_length_eq_zero h0
    subst this
    rw [run_convert_bytes_string W 22 9 5 none 0 0 Tryd.underlying22 Tryd.underlying5 Tryd.underlying9]
    simp [Conv.bytesToString, Sem.run_pure]
    rfl
  · refine run_convert_bytes_back (P := Tryd.prog) W 22 9 5 ⟨g, 0, none⟩ cap l Tryd.underlying22 Tryd.underlying5 Tryd.underlying9 fun j hj => ?_
    have e : (⟨g, 0, none⟩ : Addr).add j = ⟨g, j, none⟩ := by unfold Addr.add; split <;> simp_all
    have hb : (bytes l)[j]? = some (.int .u8 (l[j].toNat : Int)) := by simp [bytes, hj]
    rw [← h6, List.getElem?_take_of_lt (by omega), Array.getElem?_toList] at hb
    rw [e, (show Bk W g 5 cur from h2).cell]; exact hb
theorem bytes_one (b : UInt8) (l : List UInt8) : bytes (l ++ [b]) = bytes l ++ [.int .u8 (b.toNat : Int)] := by simp [bytes]

/-- A text and an error, as Print gives them. -/
def PrintV (l : List Int) (w : World) (e : Ending) (w' : World) : Prop :=
  e = .returned (.tuple #[.string ⟨(wT l).toArray⟩, .int .i64 (wE l)]) ∧ Below w.heap.size w w'

theorem make_bytes (m : Nat) (hm : m ≤ 4096) (W : World) : (Instr.makeSlice 22 (.int .i64 0) (.int .i64 m)).run Tryd.prog W = .ok (.slice (some ⟨W.heap.size, 0, none⟩) 0 m) (W.alloc (.cells (madeCells #[Value.int .u8 0] m) 5)) := by
  obtain ⟨i0, hi, hz0, hz1, hz2⟩ := info_parts info_u8
  have := run_make (P := Tryd.prog) W 22 5 i0 _ Tryd.underlying22 hi hz0 .i64 .i64 0 m (by omega) (by omega) (by rw [hz2]; omega) (by omega)
  rw [this]
  simp [Value.cells, hz1]
theorem made_own (w : World) (m : Nat) (hm : m ≤ 4096) : (w.alloc (.cells (madeCells #[Value.int .u8 0] m) 5)).ownsRow w.heap.size 5 1 (.slice (some ⟨w.heap.size, 0, none⟩) 0 m) 0 [] :=
  ⟨rfl, .inr ⟨w.heap.size, m, _, rfl, Nat.le_refl _, Bk.new w _ _, Nat.zero_le _, by unfold maxLen; omega, by have := size_madeCells #[Value.int .u8 0] m; simpa using this, rfl⟩⟩
set_option maxRecDepth 100000 in
theorem print_many (a : Option Addr) (n c : Nat) (l : List Int) (w : World) (hr : Rd .i64 w (.slice a n c) l) (h : 2000 < l.length) : Calls Tryd.prog 12 #[.slice a n c] w (PrintV l w) := by
  have hp : Hid (wE l = 11) := wE_many h
  have hl : Hid (wT l = []) := wT_no (by rw [hp.out]; decide)
  obtain ⟨rfl, _⟩ := hr.cap
  clear hr
  go_enter Tryd.func12, Tryd.ntmps12
  go_wp2
  go_ret2
  exact ⟨by rw [hp.out, hl.out]; rfl, Below.refl _ _⟩
set_option maxRecDepth 100000 in
set_option maxHeartbeats 4000000 in
theorem print_few (a : Option Addr) (n c : Nat) (l : List Int) (w : World) (he : Env w) (hr : Rd .i64 w (.slice a n c) l) (h : l.length ≤ 2000) : Calls Tryd.prog 12 #[.slice a n c] w (PrintV l w) := by
  obtain ⟨i0, hi, hz0, hz1, hz2⟩ := info_parts info_u8
  obtain ⟨rfl, _⟩ := hr.cap
  have HR := Lib.hid hr
  clear hr
  have hmk := make_bytes l.length (by omega)
  have HE := Lib.hid he
  clear he
  go_enter Tryd.func12, Tryd.ntmps12
  go_wp2
  have HO0 : Hid ((w.alloc (.cells (madeCells #[Value.int .u8 0] l.length) 5)).ownsRow w.heap.size 5 1 (.slice (some ⟨w.heap.size, 0, none⟩) 0 l.length) 0 []) := made_own w l.length (by omega)
  have HB0 : Hid (Below w.heap.size w (w.alloc (.cells (madeCells #[Value.int .u8 0] l.length) 5))) := (Below.refl _ w).alloc (Nat.le_refl _) _
  clear hmk
  go_loopw [4, 15] (fun v i wr => ∃ k : Nat, k ≤ l.length ∧ i = .int .i64 k ∧ Hid (wr.ownsRow w.heap.size 5 1 v (text (l.take k)).length (bytes (text (l.take k)))) ∧ Hid (Ans (l.take k)) ∧ Hid (Below w.heap.size w wr)) (fun _ i _ => l.length - (intOf i).toNat)
  case atStart => exact ⟨0, Nat.zero_le _, rfl, HO0.out, ans_nil, HB0.out⟩
  case round =>
    obtain ⟨k, hk, rfl, HO, HG, HB⟩ := hrel
    by_cases hlt : k < l.length
    · obtain ⟨g, off, rfl, hgl, hcell⟩ := (HR.out.below HB.out).cell hlt
      have hsz := HB.out.size
      have hown := HO.out
      obtain ⟨_, e1, e2, e3⟩ := HE.out.below HB.out
      have hnl : (text (l.take k)).length ≤ 2000 := by rw [text_length, List.length_take]; omega
      have HLE := Lib.hid hnl
      have HSN := Lib.hid (text_snoc l k hlt)
      have HGK : Hid (1 ≤ l[k] ∧ l[k] ≤ 3 → Ans (l.take (k + 1))) := fun h => by
        rw [List.take_succ_eq_append_getElem hlt]
        exact ans_append.2 ⟨HG.out, fun x hx => by rw [List.mem_singleton.1 hx]; exact h⟩
      have HNG : Hid (¬ (1 ≤ l[k] ∧ l[k] ≤ 3) → ¬ Ans l) := fun h hg => h (hg _ (List.getElem_mem hlt))
      generalize text (l.take k) = T at *
      generalize l[k] = x at *
      clear hnl
      by_cases c1 : x = 1
      · subst c1
        have HS2 : Hid (text (l.take (k + 1)) = T ++ [111]) := HSN
        have HG2 := Lib.hid (HGK.out (by decide))
        clear HGK HNG HSN 
        go_wp2_with fail
        refine (is_yes _ _ (by decide)).mono ?_
        rintro e w0 ⟨rfl, rfl⟩
        go_wp2_with (at_builtin; refine wpList_append_own _ rfl _ _ 22 rfl w.heap.size 5 i0 (.int .u8 0) 1 1 Tryd.underlying22 hi hz0 hz1 hz2 rfl (by decide) _ _ _ rfl (hown.alloc _) ⟨wr.heap.size, 0, none⟩ 1 1 [.int .u8 111] rfl rfl ?c1 ?c2 ?c3 ?c4 ?c5 ?_)
        case c1 =>
          intro j u hj
          match j, hj with
          | 0, hj => simp at hj; subst hj; first | (simp [Addr.add]; done) | (simp [Addr.add]; rfl)
        case c2 => intro u hu; simp at hu; subst hu; rfl
        case c3 => have := HLE.out; unfold maxLen; omega
        case c4 => have := HLE.out; omega
        case c5 => simp; omega
        intro v' w2 hown' hgrow _
        have HB2 := Lib.hid ((HB.out.alloc hsz _).grown hgrow (by simp; omega) (fun q hq => (hown.lt q hq).1))
        have HO2 : Hid (w2.ownsRow w.heap.size 5 1 v' (T ++ [111]).length (bytes (T ++ [111]))) := by
          unfold Hid; simpa [bytes] using hown'
        clear hown' hgrow hown
        go_wp2
        go_roundw
        case rel => exact ⟨k + 1, by omega, by go_num, by rw [HS2.out]; exact HO2.out, HG2.out, HB2.out⟩
        case measure => simp [intOf]; omega
      by_cases c2 : x = 2
      · subst c2
        have HS2 : Hid (text (l.take (k + 1)) = T ++ [108]) := HSN
        have HG2 := Lib.hid (HGK.out (by decide))
        clear HGK HNG HSN c1
        go_wp2_with fail
        refine (is_yes _ _ (by decide)).mono ?_
        rintro e w0 ⟨rfl, rfl⟩
        go_wp2_with (at_builtin; refine wpList_append_own _ rfl _ _ 22 rfl w.heap.size 5 i0 (.int .u8 0) 1 1 Tryd.underlying22 hi hz0 hz1 hz2 rfl (by decide) _ _ _ rfl (hown.alloc _) ⟨wr.heap.size, 0, none⟩ 1 1 [.int .u8 108] rfl rfl ?c1 ?c2 ?c3 ?c4 ?c5 ?_)
        case c1 =>
          intro j u hj
          match j, hj with
          | 0, hj => simp at hj; subst hj; first | (simp [Addr.add]; done) | (simp [Addr.add]; rfl)
        case c2 => intro u hu; simp at hu; subst hu; rfl
        case c3 => have := HLE.out; unfold maxLen; omega
        case c4 => have := HLE.out; omega
        case c5 => simp; omega
        intro v' w2 hown' hgrow _
        have HB2 := Lib.hid ((HB.out.alloc hsz _).grown hgrow (by simp; omega) (fun q hq => (hown.lt q hq).1))
        have HO2 : Hid (w2.ownsRow w.heap.size 5 1 v' (T ++ [108]).length (bytes (T ++ [108]))) := by
          unfold Hid; simpa [bytes] using hown'
        clear hown' hgrow hown
        go_wp2
        go_roundw
        case rel => exact ⟨k + 1, by omega, by go_num, by rw [HS2.out]; exact HO2.out, HG2.out, HB2.out⟩
        case measure => simp [intOf]; omega
      by_cases c3 : x = 3
      · subst c3
        have HS2 : Hid (text (l.take (k + 1)) = T ++ [102]) := HSN
        have HG2 := Lib.hid (HGK.out (by decide))
        clear HGK HNG HSN c1 c2
        go_wp2_with fail
        refine (is_yes _ _ (by decide)).mono ?_
        rintro e w0 ⟨rfl, rfl⟩
        go_wp2_with (at_builtin; refine wpList_append_own _ rfl _ _ 22 rfl w.heap.size 5 i0 (.int .u8 0) 1 1 Tryd.underlying22 hi hz0 hz1 hz2 rfl (by decide) _ _ _ rfl (hown.alloc _) ⟨wr.heap.size, 0, none⟩ 1 1 [.int .u8 102] rfl rfl ?c1 ?c2 ?c3 ?c4 ?c5 ?_)
        case c1 =>
          intro j u hj
          match j, hj with
          | 0, hj => simp at hj; subst hj; first | (simp [Addr.add]; done) | (simp [Addr.add]; rfl)
        case c2 => intro u hu; simp at hu; subst hu; rfl
        case c3 => have := HLE.out; unfold maxLen; omega
        case c4 => have := HLE.out; omega
        case c5 => simp; omega
        intro v' w2 hown' hgrow _
        have HB2 := Lib.hid ((HB.out.alloc hsz _).grown hgrow (by simp; omega) (fun q hq => (hown.lt q hq).1))
        have HO2 : Hid (w2.ownsRow w.heap.size 5 1 v' (T ++ [102]).length (bytes (T ++ [102]))) := by
          unfold Hid; simpa [bytes] using hown'
        clear hown' hgrow hown
        go_wp2
        go_roundw
        case rel => exact ⟨k + 1, by omega, by go_num, by rw [HS2.out]; exact HO2.out, HG2.out, HB2.out⟩
        case measure => simp [intOf]; omega
      have hno : ¬ (1 ≤ x ∧ x ≤ 3) := by omega
      have hbad := HNG.out hno
      have hp : Hid (wE l = 2) := wE_arg h hbad
      have hl : Hid (wT l = []) := wT_no (by rw [hp.out]; decide)
      have HNO := Lib.hid hno
      clear hbad HGK HNG HSN hown c1 c2 c3 hno
      go_wp2_with fail
      refine (is_no _ _ HNO.out).mono ?_
      rintro e w0 ⟨rfl, rfl⟩
      go_wp2
      go_ret2
      exact ⟨by rw [hp.out, hl.out]; rfl, HB.out⟩
    · obtain rfl : k = l.length := by omega
      have hg := HG.out
      have ho := HO.out
      rw [List.take_length] at hg ho
      have hp : Hid (wE l = 0) := wE_ok h hg
      have hl : Hid (wT l = text l) := wT_ok hp.out
      have hcv := conv_own ho
      clear hg ho
      go_wp2
      go_ret2
      exact ⟨by rw [hp.out, hl.out]; rfl, HB.out⟩
theorem print_ok (a : Option Addr) (n c : Nat) (l : List Int) (w : World) (he : Env w) (hr : Rd .i64 w (.slice a n c) l) : Calls Tryd.prog 12 #[.slice a n c] w (PrintV l w) := by
  by_cases h1 : l.length ≤ 2000
  · exact print_few a n c l w he hr h1
  · exact print_many a n c l w hr (by omega)

end Go.Proofs.YtpgokoeedmipeaaDoor
