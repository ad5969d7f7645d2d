/- The contracts of the document's Runes, Check, Width, Cut and Plain. -/
import Derived.Test.YtmgkdklpahggjaaDoorRb
import Derived.Test.YtmgkdklpahggjaaDoorCd
namespace Go.Proofs.YtmgkdklpahggjaaDoor
open Go.RowKit

def ints (rs : List Nat) : List Value := rs.map fun (r : Nat) => Value.int .i64 (r : Int)

def RnPost (l : List UInt8) (n : Nat) (w : World) (e : Ending) (w' : World) : Prop :=
  Below n w w' ∧ ((∃ rs v, Utf l rs ∧ e = .returned (.tuple #[v, .bool true]) ∧ w'.ownsRow n 3 1 v rs.length (ints rs)) ∨ ((∀ rs, ¬ Utf l rs) ∧ e = .returned (.tuple #[.slice none 0 0, .bool false])))
def RnRel (s : ByteArray) (n : Nat) (w : World) (v i : Value) (wr : World) : Prop :=
  ∃ (pre rest : List UInt8) (ps : List Nat), s.data.toList = pre ++ rest ∧ Utf pre ps ∧ i = .int .i64 pre.length ∧ wr.ownsRow n 3 1 v ps.length (ints ps) ∧ Below n w wr

theorem info_int : (Tryd.prog.info? 3).map (fun i => (i.zero, i.size, i.bytes)) = some (some (.int .i64 0), 1, 8) := by kernel_rfl

set_option maxRecDepth 100000 in
set_option maxHeartbeats 2000000 in
theorem rrunes_any (s : ByteArray) (w : World) (hs : s.size ≤ 1000000) :
    Calls Tryd.prog 30 #[.string s] w (RnPost s.data.toList w.heap.size w) := by
  obtain ⟨i0, hi, hz0, hz1, hz2⟩ := info_parts info_int
  go_enter Tryd.func30, Tryd.ntmps30
  go_wp2
  go_loopw [4, 5] (fun v i wr => RnRel s w.heap.size w v i wr) (fun _ i _ => s.size - (intOf i).toNat)
  case atStart => exact ⟨[], s.data.toList, [], rfl, utf_nil, rfl, World.ownsRow_nil _ _ _ _, Below.refl _ _⟩
  case round =>
    obtain ⟨pre, rest, ps, he, hu, rfl, hown, hbw⟩ := hrel
    have hl : s.size = pre.length + rest.length := by rw [Lib.size_eq, he]; simp
    have hsz : w.heap.size ≤ wr.heap.size := hbw.size
    have hpl := (utf_len hu).1
    have HE := Lib.hid he
    have HU := Lib.hid hu
    clear he hu
    by_cases hrest : rest = []
    · subst hrest
      have hpe : pre.length = s.size := by simpa using hl.symm
      have hge : ¬ pre.length < s.size := by omega
      clear hl hpe
      go_wp2
      go_ret2
      exact ⟨hbw, .inl ⟨ps, _, by rw [HE.out, List.append_nil]; exact HU.out, rfl, hown⟩⟩
    · have hpos : 0 < rest.length := List.length_pos_iff.2 hrest
      have hlt : pre.length < s.size := by omega
      by_cases hb : bad rest
      · have HB := Lib.hid hb
        have HR := Lib.hid hrest
        clear hb hrest
        go_wp2_with fail
        refine (rune_bad s pre rest _ (by omega) HR.out HB.out HE.out).mono ?_
        rintro e w1 ⟨rfl, rfl⟩
        go_wp2
        go_ret2
        exact ⟨hbw, .inr ⟨fun rs h => utf_bad HU.out HR.out HB.out (HE.out ▸ h), rfl⟩⟩
      · obtain ⟨r, m, hr, hm⟩ := decodeL_good rest hrest hb
        have hlen := encR_length r
        have HR := Lib.hid hr
        have HM := Lib.hid hm
        have hl2 : s.size = pre.length + ((encR r).length + m.length) := by rw [hl, hm]; simp
        have hne0 : (((encR r).length : Int) == 0) = false := beq_eq_false_iff_ne.2 (by omega)
        clear hr hm hb hrest
        go_wp2_with fail
        refine (rune_good s pre m r _ (by omega) HR.out (by rw [HE.out, HM.out])).mono ?_
        rintro e w1 ⟨rfl, rfl⟩
        go_wp2_with (at_builtin; refine wpList_append_own _ rfl _ _ 38 rfl w.heap.size 3 i0 (.int .i64 0) 1 8 Tryd.underlying38 hi hz0 hz1 hz2 rfl (by decide) _ _ _ rfl (hown.alloc _) ⟨wr.heap.size, 0, none⟩ 1 1 [.int .i64 r] rfl rfl ?c1 ?c2 ?c3 ?c4 ?c5 ?_)
        case c1 =>
          intro j u hj
          match j, hj with
          | 0, hj => simp at hj; subst hj; simp [Addr.add]
        case c2 => intro u hu; simp at hu; subst hu; rfl
        case c3 => unfold maxLen; omega
        case c4 => omega
        case c5 => simp; omega
        intro v' w2 hown' hgrow _
        have hbw2 : Below w.heap.size w w2 := (hbw.alloc hsz _).grown hgrow (by simp; omega) (fun k hk => (World.ownsRow.lt hown k hk).1)
        have HOWN := Lib.hid hown'
        clear hown' hgrow hown
        go_wp2
        go_roundw
        case rel =>
          refine ⟨pre ++ encR r, m, ps ++ [r], by rw [HE.out, HM.out]; simp, utf_append HU.out (utf_one HR.out), by rw [List.length_append]; go_num, ?_, hbw2⟩
          have := HOWN.out
          simpa [ints] using this
        case measure => simp [intOf]; omega
end Go.Proofs.YtmgkdklpahggjaaDoor
