/- The contracts of Same, and of the helpers letters and ofs. -/
import Derived.Test.YtpgokoeedmipeaaDoorAe
namespace Go.Proofs.YtpgokoeedmipeaaDoor
open Go.RowKit

set_option maxRecDepth 100000 in
set_option maxHeartbeats 1000000 in
theorem same_yes (a a' : Option Addr) (n n' c c' : Nat) (l : List Int) (w : World) (h : Rd .i64 w (.slice a n c) l) (h' : Rd .i64 w (.slice a' n' c') l) :
    Calls Tryd.prog 14 #[.slice a n c, .slice a' n' c'] w fun e w' => e = .returned (.bool true) ∧ ∃ q, w' = w.drewN q := by
  obtain ⟨rfl, h1, h2, _⟩ := h.cap
  obtain ⟨rfl, _⟩ := h'.cap
  have H := Lib.hid h
  have H' := Lib.hid h'
  clear h h'
  go_enter Tryd.func14, Tryd.ntmps14
  go_wp2
  go_loopw [5] (fun i wr => ∃ k : Nat, k ≤ l.length ∧ i = .int .i64 k ∧ Hid (∃ q, wr = w.drewN q)) (fun i _ => l.length - (intOf i).toNat)
  case atStart => exact ⟨0, Nat.zero_le _, rfl, 0, rfl⟩
  case round =>
    obtain ⟨k, hk, rfl, HQ⟩ := hrel
    have HBQ : Hid (Below w.heap.size w wr) := by obtain ⟨q, rfl⟩ := HQ.out; exact bel_drewN (Below.refl _ w) q
    by_cases hlt : k < l.length
    · obtain ⟨g, off, rfl, hg, hcell⟩ := (H.out.below HBQ.out).cell hlt
      obtain ⟨g', off', rfl, hg', hcell'⟩ := (H'.out.below HBQ.out).cell hlt
      generalize l[k] = x at *
      go_wp2
      go_quiet (fail)
      have hxx : (x != x) = false := by simp
      go_wp2
      go_roundw
      case rel => exact ⟨k + 1, by omega, by go_num, by obtain ⟨q, rfl⟩ := HQ.out; exact ⟨_, World.drewN_drewN _ _ _⟩⟩
      case measure => simp [intOf]; omega
    · obtain rfl : k = l.length := by omega
      go_wp2
      go_ret
      exact ⟨rfl, HQ.out⟩

/-! ### letters -/
/-- The answers that numbers stand for. -/
def ans_ (l : List Int) : List Int := l.map fun x => 1 + x % 3
theorem ans_ok (l : List Int) : Ans (ans_ l) := by
  intro y hy
  obtain ⟨x, _, rfl⟩ := List.mem_map.1 hy
  omega
theorem ans_length (l : List Int) : (ans_ l).length = l.length := by simp [ans_]
theorem ans_snoc (l : List Int) (k : Nat) (h : k < l.length) : ans_ (l.take (k + 1)) = ans_ (l.take k) ++ [1 + l[k] % 3] := by
  unfold ans_
  rw [List.take_succ_eq_append_getElem h, List.map_append]; rfl
theorem ans_at (l : List Int) (k : Nat) (h : k < l.length) : (ans_ l)[k]? = some (1 + l[k] % 3) := by simp [ans_, h]
/-- A string, out of bytes. -/
def str (l : List UInt8) : ByteArray := ⟨l.toArray⟩
theorem str_data (l : List UInt8) : (str l).data.toList = l := rfl
theorem str_size (l : List UInt8) : (str l).size = l.length := by rw [size_data, str_data]
theorem str_of (s : ByteArray) : str s.data.toList = s := by apply ByteArray.ext; simp [str]
theorem str_append (a b : List UInt8) : str a ++ str b = str (a ++ b) := by apply ByteArray.ext; simp [str]

def LetV (l : List Int) (w : World) (e : Ending) (w' : World) : Prop := e = .returned (.string (str (text (ans_ l)))) ∧ Below w.heap.size w w'
set_option maxRecDepth 100000 in
set_option maxHeartbeats 4000000 in
theorem letters_ok (a : Option Addr) (n c : Nat) (l : List Int) (w : World) (hr : Rd .u8 w (.slice a n c) l) (hb : ∀ x ∈ l, 0 ≤ x ∧ x ≤ 255) (hl : l.length ≤ 2500) : Calls Tryd.prog 7 #[.slice a n c] w (LetV l w) := by
  obtain ⟨i0, hi, hz0, hz1, hz2⟩ := info_parts info_u8
  obtain ⟨rfl, _⟩ := hr.cap
  have HR := Lib.hid hr
  have HBB := Lib.hid hb
  clear hr hb
  go_enter Tryd.func7, Tryd.ntmps7
  go_wp2
  go_loopw [3, 4] (fun v i wr => ∃ k : Nat, k ≤ l.length ∧ i = .int .i64 k ∧ Hid (wr.ownsRow w.heap.size 5 1 v (text (ans_ (l.take k))).length (bytes (text (ans_ (l.take k))))) ∧ Hid (Below w.heap.size w wr)) (fun _ i _ => l.length - (intOf i).toNat)
  case atStart => exact ⟨0, Nat.zero_le _, rfl, World.ownsRow_nil _ _ _ _, Below.refl _ _⟩
  case round =>
    obtain ⟨k, hk, rfl, HO, HB⟩ := hrel
    by_cases hlt : k < l.length
    · obtain ⟨g, off, rfl, hgl, hcell⟩ := (HR.out.below HB.out).cell hlt
      have hsz := HB.out.size
      have hown := HO.out
      have hnl : (text (ans_ (l.take k))).length ≤ 2500 := by rw [text_length, ans_length, List.length_take]; omega
      have HLE := Lib.hid hnl
      have hsn : text (ans_ (l.take (k + 1))) = text (ans_ (l.take k)) ++ [lett (1 + l[k] % 3)] := by rw [ans_snoc l k hlt, text_append]; rfl
      have HSN := Lib.hid hsn
      obtain ⟨hx0, hx1⟩ := HBB.out l[k] (List.getElem_mem hlt)
      generalize text (ans_ (l.take k)) = T at *
      generalize l[k] = x at *
      clear hnl hsn
      by_cases c0 : x % 3 = 0
      · have e1 : x.tmod 3 = 0 := by rw [Int.tmod_eq_emod_of_nonneg hx0]; exact c0
        have HS2 : Hid (text (ans_ (l.take (k + 1))) = T ++ [111]) := by have h := HSN.out; rw [c0] at h; exact h
        clear HSN
        go_wp2_with (at_builtin; refine wpList_append_own _ rfl _ _ 22 rfl w.heap.size 5 i0 (.int .u8 0) 1 1 Tryd.underlying22 hi hz0 hz1 hz2 rfl (by decide) _ _ _ rfl (hown.alloc _) ⟨wr.heap.size, 0, none⟩ 1 1 [.int .u8 111] rfl rfl ?c1 ?c2 ?c3 ?c4 ?c5 ?_)
        case c1 =>
          intro j u hj
          match j, hj with
          | 0, hj => simp at hj; subst hj; first | (simp [Addr.add]; done) | (simp [Addr.add]; rfl)
        case c2 => intro u hu; simp at hu; subst hu; rfl
        case c3 => have := HLE.out; unfold maxLen; omega
        case c4 => have := HLE.out; omega
        case c5 => simp; omega
        intro v' w2 hown' hgrow _
        have HB2 := Lib.hid ((HB.out.alloc hsz _).grown hgrow (by simp; omega) (fun q hq => (hown.lt q hq).1))
        have HO2 : Hid (w2.ownsRow w.heap.size 5 1 v' (T ++ [111]).length (bytes (T ++ [111]))) := by
          unfold Hid; simpa [bytes] using hown'
        clear hown' hgrow hown
        go_wp2
        go_roundw
        case rel => exact ⟨k + 1, by omega, by go_num, by rw [HS2.out]; exact HO2.out, HB2.out⟩
        case measure => simp [intOf]; omega
      by_cases c1 : x % 3 = 1
      · have e1 : x.tmod 3 = 1 := by rw [Int.tmod_eq_emod_of_nonneg hx0]; exact c1
        have HS2 : Hid (text (ans_ (l.take (k + 1))) = T ++ [108]) := by have h := HSN.out; rw [c1] at h; exact h
        clear HSN
        go_wp2_with (at_builtin; refine wpList_append_own _ rfl _ _ 22 rfl w.heap.size 5 i0 (.int .u8 0) 1 1 Tryd.underlying22 hi hz0 hz1 hz2 rfl (by decide) _ _ _ rfl (hown.alloc _) ⟨wr.heap.size, 0, none⟩ 1 1 [.int .u8 108] rfl rfl ?c1 ?c2 ?c3 ?c4 ?c5 ?_)
        case c1 =>
          intro j u hj
          match j, hj with
          | 0, hj => simp at hj; subst hj; first | (simp [Addr.add]; done) | (simp [Addr.add]; rfl)
        case c2 => intro u hu; simp at hu; subst hu; rfl
        case c3 => have := HLE.out; unfold maxLen; omega
        case c4 => have := HLE.out; omega
        case c5 => simp; omega
        intro v' w2 hown' hgrow _
        have HB2 := Lib.hid ((HB.out.alloc hsz _).grown hgrow (by simp; omega) (fun q hq => (hown.lt q hq).1))
        have HO2 : Hid (w2.ownsRow w.heap.size 5 1 v' (T ++ [108]).length (bytes (T ++ [108]))) := by
          unfold Hid; simpa [bytes] using hown'
        clear hown' hgrow hown
        go_wp2
        go_roundw
        case rel => exact ⟨k + 1, by omega, by go_num, by rw [HS2.out]; exact HO2.out, HB2.out⟩
        case measure => simp [intOf]; omega
      by_cases c2 : x % 3 = 2
      · have e1 : x.tmod 3 = 2 := by rw [Int.tmod_eq_emod_of_nonneg hx0]; exact c2
        have HS2 : Hid (text (ans_ (l.take (k + 1))) = T ++ [102]) := by have h := HSN.out; rw [c2] at h; exact h
        clear HSN
        go_wp2_with (at_builtin; refine wpList_append_own _ rfl _ _ 22 rfl w.heap.size 5 i0 (.int .u8 0) 1 1 Tryd.underlying22 hi hz0 hz1 hz2 rfl (by decide) _ _ _ rfl (hown.alloc _) ⟨wr.heap.size, 0, none⟩ 1 1 [.int .u8 102] rfl rfl ?c1 ?c2 ?c3 ?c4 ?c5 ?_)
        case c1 =>
          intro j u hj
          match j, hj with
          | 0, hj => simp at hj; subst hj; first | (simp [Addr.add]; done) | (simp [Addr.add]; rfl)
        case c2 => intro u hu; simp at hu; subst hu; rfl
        case c3 => have := HLE.out; unfold maxLen; omega
        case c4 => have := HLE.out; omega
        case c5 => simp; omega
        intro v' w2 hown' hgrow _
        have HB2 := Lib.hid ((HB.out.alloc hsz _).grown hgrow (by simp; omega) (fun q hq => (hown.lt q hq).1))
        have HO2 : Hid (w2.ownsRow w.heap.size 5 1 v' (T ++ [102]).length (bytes (T ++ [102]))) := by
          unfold Hid; simpa [bytes] using hown'
        clear hown' hgrow hown
        go_wp2
        go_roundw
        case rel => exact ⟨k + 1, by omega, by go_num, by rw [HS2.out]; exact HO2.out, HB2.out⟩
        case measure => simp [intOf]; omega
      exfalso; omega
    · obtain rfl : k = l.length := by omega
      have ho := HO.out
      rw [List.take_length] at ho
      have hcv := conv_own ho
      clear ho
      go_wp2
      go_ret
      exact ⟨rfl, HB.out⟩

/-! ### ofs -/
theorem make_full (m : Nat) (hm : m ≤ 4096) (W : World) : (Instr.makeSlice 22 (.int .i64 m) (.int .i64 m)).run Tryd.prog W = .ok (.slice (some ⟨W.heap.size, 0, none⟩) m m) (W.alloc (.cells (madeCells #[Value.int .u8 0] m) 5)) := by
  obtain ⟨i0, hi, hz0, hz1, hz2⟩ := info_parts info_u8
  have := run_make (P := Tryd.prog) W 22 5 i0 _ Tryd.underlying22 hi hz0 .i64 .i64 m m (by omega) (by omega) (by rw [hz2]; omega) (by omega)
  rw [this]
  simp [Value.cells, hz1]
def OfsV (n : Nat) (b : UInt8) (w : World) (e : Ending) (w' : World) : Prop :=
  ∃ v, e = .returned v ∧ w'.ownsRow w.heap.size 5 1 v (List.replicate n b).length (bytes (List.replicate n b)) ∧ Below w.heap.size w w'
end Go.Proofs.YtpgokoeedmipeaaDoor
